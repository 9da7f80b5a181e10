/- Plain mathematics: a pool's bytes, there and back. -/
import Derived.Test.YtljbcclfafndmaaDoorDt
import Derived.Test.YtljbcclfafndmaaDoorDr
import Derived.Test.YtljbcclfafndmaaDoorDe
namespace Go.Proofs.YtljbcclfafndmaaDoor
open Go.RowKit

/-- The bytes of a list of entries. -/
def encF (l : List Cp.C) : List Int := l.flatMap fun c => if c.t = 0 then [] else encE c
theorem encF_app (a b : List Cp.C) : encF (a ++ b) = encF a ++ encF b := by unfold encF; rw [List.flatMap_append]
theorem encF_one {c : Cp.C} (h : c.t ≠ 0) : encF [c] = encE c := by
  unfold encF
  simp [h]
theorem encF_none {c : Cp.C} (h : c.t = 0) : encF [c] = [] := by
  unfold encF
  simp [h]
theorem encT_F (l : List Cp.C) : ∀ k, k ≤ l.length → encT (told l k) = encF (l.take k)
  | 0, _ => rfl
  | k + 1, hk => by
    obtain ⟨c, hc⟩ : ∃ c, l[k]? = some c := ⟨l[k]'(by omega), List.getElem?_eq_getElem _⟩
    rw [List.take_add_one, hc, encF_app]
    show _ = _ ++ encF [c]
    by_cases h0 : c.t = 0
    · rw [told_no hc h0, encF_none h0, List.append_nil]
      exact encT_F l k (by omega)
    · rw [told_yes hc h0, encT_snoc, encF_one h0, encT_F l k (by omega)]
theorem putB_F (l : List Cp.C) : putB l = bytesN l.length 2 ++ encF l := by
  unfold putB
  rw [encT_F l l.length (Nat.le_refl _), List.take_length]
theorem err_none {l : List Cp.C} {k : Nat} {c : Cp.C} (h : errAt l k = 0) (hc : l[k]? = some c) (hp : prevB l k = true) : c = Cp.C0 := by
  unfold errAt at h
  rw [hc] at h
  dsimp only at h
  rw [hp, if_pos rfl] at h
  by_cases e : c = Cp.C0
  · exact e
  · rw [if_neg e] at h; omega
theorem err_some {l : List Cp.C} {k : Nat} {c : Cp.C} (h : errAt l k = 0) (hc : l[k]? = some c) (hp : prevB l k = false) : ceOut c = 0 ∧ ¬ (c.t = 5 ∧ k = l.length - 1) := by
  unfold errAt at h
  rw [hc] at h
  dsimp only at h
  rw [hp, if_neg (by simp)] at h
  by_cases e : c.t = 5 ∧ k = l.length - 1
  · rw [if_pos e] at h; omega
  · rw [if_neg e] at h
    exact ⟨h, e⟩
theorem ce_t {c : Cp.C} (h : ceOut c = 0) : c.t ≠ 0 := by
  intro e
  have := (ce_size h).1
  rw [e] at this
  cases this
/-- What stands from a place on is read. -/
theorem go_back {l : List Cp.C} (h : CkIs l 0) (hn : ∀ c ∈ l, I6 c.n) (r : List UInt8) : ∀ (f k : Nat), k ≤ l.length → l.length - k ≤ f → prevB l k = false ∨ k = l.length → plGo f l.length (l.take k) (bsOf (encF (l.drop k)) ++ r) = .ok (l, r)
  | 0, k, hk, hf, _ => by
    obtain rfl : k = l.length := by omega
    rw [List.take_length, List.drop_length]
    rfl
  | f + 1, k, hk, hf, hp => by
    unfold plGo
    by_cases hlt : k < l.length
    · have hl : (l.take k).length = k := by rw [List.length_take]; omega
      have hp := hp.resolve_right (by omega)
      obtain ⟨c, hc⟩ : ∃ c, l[k]? = some c := ⟨l[k], List.getElem?_eq_getElem hlt⟩
      have hall := (ck_all.1 h).2
      obtain ⟨hce, h5⟩ := err_some (hall k hlt) hc hp
      have hd : l.drop k = c :: l.drop (k + 1) := by rw [List.drop_eq_getElem_cons hlt, show l[k] = c from Option.some.inj ((List.getElem?_eq_getElem hlt).symm.trans hc)]
      have hnx : prevB l (k + 1) = (c.t == 5) := by unfold prevB; dsimp only; rw [hc]
      rw [hl, if_pos hlt, hd, show (c :: l.drop (k + 1)) = [c] ++ l.drop (k + 1) from rfl, encF_app, encF_one (ce_t hce), bsOf_app, List.append_assoc, en_back hce (hn c (List.mem_of_getElem? hc)) (by rintro ⟨e1, e2⟩; exact h5 ⟨e1, by omega⟩)]
      dsimp only
      have ht1 : l.take (k + 1) = l.take k ++ [c] := by rw [List.take_add_one, hc]; rfl
      unfold appE
      by_cases e5 : c.t = 5
      · rw [if_pos e5]
        have hk2 : k + 1 < l.length := by
          rcases Nat.lt_or_ge (k + 1) l.length with h1 | h1
          · exact h1
          · exact absurd ⟨e5, by omega⟩ h5
        obtain ⟨d, hd2⟩ : ∃ d, l[k + 1]? = some d := ⟨l[k + 1], List.getElem?_eq_getElem hk2⟩
        obtain rfl := err_none (hall (k + 1) hk2) hd2 (by rw [hnx]; simpa using e5)
        have hdr : l.drop (k + 1) = Cp.C0 :: l.drop (k + 2) := by rw [List.drop_eq_getElem_cons hk2, show l[k + 1] = Cp.C0 from Option.some.inj ((List.getElem?_eq_getElem hk2).symm.trans hd2)]
        have ht2 : l.take (k + 2) = l.take k ++ [c] ++ [Cp.C0] := by rw [List.take_add_one, hd2, ht1]; rfl
        rw [hdr, show (Cp.C0 :: l.drop (k + 2)) = [Cp.C0] ++ l.drop (k + 2) from rfl, encF_app, encF_none rfl, List.nil_append, ← ht2]
        refine go_back h hn r f (k + 2) (by omega) (by omega) (.inl ?_)
        unfold prevB
        dsimp only
        rw [hd2]
        rfl
      · rw [if_neg e5, ← ht1]
        exact go_back h hn r f (k + 1) (by omega) (by omega) (.inl (by rw [hnx]; simpa using e5))
    · obtain rfl : k = l.length := by omega
      rw [List.take_length, if_neg (by omega), List.drop_length]
      rfl
/-- A good pool's bytes are read as this pool. -/
theorem pl_back {l : List Cp.C} (h : CkIs l 0) (hn : ∀ c ∈ l, I6 c.n) (r : List UInt8) : plP (bsOf (putB l) ++ r) = .ok (l, r) := by
  have hl4 := (ck_size h).1
  have l2 : (bsOf (bytesN l.length 2)).length = 2 := by rw [bsOf_len, bytesN_len]
  rw [putB_F, bsOf_app, List.append_assoc]
  unfold plP
  rw [List.take_left' l2, List.drop_left' l2, num2 l.length (by omega), if_neg (by rw [List.length_append]; omega), if_neg (by omega)]
  by_cases h0 : l.length = 0
  · obtain rfl := List.length_eq_zero_iff.1 h0
    exact if_pos rfl
  · rw [if_neg (by omega), Int.toNat_natCast]
    obtain ⟨c, hc⟩ : ∃ c, l[0]? = some c := ⟨l[0]'(by omega), List.getElem?_eq_getElem _⟩
    obtain rfl := err_none ((ck_all.1 h).2 0 (by omega)) hc rfl
    have ht : l.take 1 = [Cp.C0] := by rw [List.take_add_one, hc]; rfl
    have hd : l = [Cp.C0] ++ l.drop 1 := by rw [← ht, List.take_append_drop]
    have e : encF l = encF (l.drop 1) := by
      conv => lhs; rw [hd]
      rw [encF_app, encF_none rfl, List.nil_append]
    rw [e, ← ht]
    exact go_back h hn r l.length 1 (by omega) (by omega) (.inl (by unfold prevB; dsimp only; rw [hc]; rfl))
theorem hd_same {l : List Cp.C} (h : l.length ≠ 0) : hdP l = l := by unfold hdP; rw [if_neg h]
/-- What is read is good, and its bytes are what was read. -/
theorem go_forth {n : Nat} (hn : n ≤ 4096) : ∀ (f : Nat) (l l' : List Cp.C) (q r : List UInt8), plGo f n l q = .ok (l', r) → CkIs l 0 → l.length ≠ 0 → l.length ≤ n → n - l.length ≤ f → (∀ c ∈ l, I6 c.n) →
    CkIs l' 0 ∧ l'.length = n ∧ (∀ c ∈ l', I6 c.n) ∧ ∃ t, l' = l ++ t ∧ q = bsOf (encF t) ++ r
  | 0, l, l', q, r, h, hc, h0, hl, hf, hi => by
    unfold plGo at h
    obtain ⟨rfl, rfl⟩ := Prod.mk.inj (Except.ok.inj h)
    exact ⟨hc, by omega, hi, [], by simp, by rfl⟩
  | f + 1, l, l', q, r, h, hc, h0, hl, hf, hi => by
    unfold plGo at h
    by_cases hlt : l.length < n
    · rw [if_pos hlt] at h
      cases he : enP ((n : Int) - (l.length : Int)) q with
      | error e => rw [he] at h; cases h
      | ok y =>
        obtain ⟨c, q'⟩ := y
        rw [he] at h
        dsimp only at h
        obtain ⟨hce, hci, hq, hr⟩ := en_forth he
        have hal : (appE l c).length ≤ n := by
          unfold appE
          by_cases e5 : c.t = 5
          · rw [if_pos e5, List.length_append, List.length_append]
            have : ¬ ((n : Int) - (l.length : Int) < 2) := fun e => hr ⟨e5, e⟩
            simp only [List.length_cons, List.length_nil]
            omega
          · rw [if_neg e5, List.length_append]
            simp only [List.length_cons, List.length_nil]
            omega
        have hck := app_ok hc hce (by rw [hd_same h0]; omega)
        rw [hd_same h0] at hck
        have hlen := (appE_len l c).1
        have hai : ∀ x ∈ appE l c, I6 x.n := by
          intro x hx
          have z6 : I6 Cp.C0.n := by show I6 0; unfold I6; omega
          unfold appE at hx
          by_cases e5 : c.t = 5
          · rw [if_pos e5] at hx
            rcases List.mem_append.1 hx with hx | hx
            · rcases List.mem_append.1 hx with hx | hx
              · exact hi x hx
              · obtain rfl : x = c := by simpa using hx
                exact hci
            · obtain rfl : x = Cp.C0 := by simpa using hx
              exact z6
          · rw [if_neg e5] at hx
            rcases List.mem_append.1 hx with hx | hx
            · exact hi x hx
            · obtain rfl : x = c := by simpa using hx
              exact hci
        obtain ⟨g1, g2, g3, t, g4, g5⟩ := go_forth hn f (appE l c) l' q' r h hck (by omega) hal (by omega) hai
        refine ⟨g1, g2, g3, ?_⟩
        unfold appE at g4
        by_cases e5 : c.t = 5
        · rw [if_pos e5] at g4
          refine ⟨[c] ++ [Cp.C0] ++ t, by rw [g4]; simp, ?_⟩
          rw [encF_app, encF_app, encF_one (ce_t hce), encF_none rfl, List.append_nil, bsOf_app, List.append_assoc, ← g5]
          exact hq
        · rw [if_neg e5] at g4
          refine ⟨[c] ++ t, by rw [g4]; simp, ?_⟩
          rw [encF_app, encF_one (ce_t hce), bsOf_app, List.append_assoc, ← g5]
          exact hq
    · rw [if_neg hlt] at h
      obtain ⟨rfl, rfl⟩ := Prod.mk.inj (Except.ok.inj h)
      exact ⟨hc, by omega, hi, [], by simp, by rfl⟩
theorem pl_forth {bs r : List UInt8} {l : List Cp.C} (h : plP bs = .ok (l, r)) : CkIs l 0 ∧ (∀ c ∈ l, I6 c.n) ∧ bs = bsOf (putB l) ++ r := by
  unfold plP at h
  by_cases h1 : bs.length < 2
  · rw [if_pos h1] at h; cases h
  · rw [if_neg h1] at h
    have l2 : (bs.take 2).length = 2 := by rw [List.length_take]; omega
    have hnr := num2_range l2
    obtain ⟨n, hn⟩ : ∃ n : Nat, Cp.numI (bs.take 2) = n := ⟨(Cp.numI (bs.take 2)).toNat, by omega⟩
    have hb2 := back2 l2
    rw [hn] at h hb2
    by_cases h2 : (4096 : Int) < n
    · rw [if_pos h2] at h; cases h
    · rw [if_neg h2] at h
      have ck1 : CkIs [Cp.C0] 0 := by
        refine ck_all.2 ⟨by simp, fun i hi => ?_⟩
        obtain rfl : i = 0 := by simpa using hi
        simp [errAt, prevB]
      by_cases h3 : (n : Int) = 0
      · rw [if_pos h3] at h
        obtain ⟨rfl, rfl⟩ := Prod.mk.inj (Except.ok.inj h)
        obtain rfl : n = 0 := by omega
        refine ⟨ck_all.2 ⟨by simp, fun i hi => absurd hi (by simp)⟩, (fun c hc => absurd hc (by simp)), ?_⟩
        rw [putB_F, show encF [] = [] from rfl, List.append_nil, show (([] : List Cp.C).length) = 0 from rfl, hb2, List.take_append_drop]
      · rw [if_neg h3, Int.toNat_natCast] at h
        obtain ⟨g1, g2, g3, t, g4, g5⟩ := go_forth (n := n) (by omega) n [Cp.C0] l _ r h ck1 (by simp) (by simp; omega) (by simp) (by
          intro c hc
          obtain rfl : c = Cp.C0 := by simpa using hc
          show I6 0
          unfold I6
          omega)
        refine ⟨g1, g3, ?_⟩
        rw [putB_F, g2, g4, encF_app, encF_none rfl, List.nil_append, bsOf_app, hb2, List.append_assoc, ← g5, List.take_append_drop]
end Go.Proofs.YtljbcclfafndmaaDoor

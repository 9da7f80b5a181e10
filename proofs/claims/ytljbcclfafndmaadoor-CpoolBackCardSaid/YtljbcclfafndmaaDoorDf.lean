/- Contract of the document's entry. -/
import Derived.Test.YtljbcclfafndmaaDoorCs
namespace Go.Proofs.YtljbcclfafndmaaDoor
open Go.RowKit

/-- A number of 64 bits. -/
def I6 (z : Int) : Prop := -9223372036854775808 ≤ z ∧ z ≤ 9223372036854775807
/-- What the document asks of an entry's parts. -/
def eOk (t : Int) (s : ByteArray) (n a b : Int) : Prop := (n = 0 ∨ t = 5 ∨ (t = 3 ∧ n = IntKind.i32.wrap n)) ∧ (a = 0 ∨ (7 ≤ t ∧ 0 < a ∧ a ≤ 65535)) ∧ (b = 0 ∨ (7 < t ∧ 0 < b ∧ b ≤ 65535)) ∧ (t = 1 ∨ s = ⟨#[]⟩)
theorem sgn_0 (z : Int) : sgn z 0 = 0 := rfl
theorem sgn_4 (z : Int) : sgn z 4 = IntKind.i32.wrap z := rfl
theorem sgn_8 {z : Int} (h : I6 z) : sgn z 8 = z := by
  unfold I6 at h
  show IntKind.i64.wrap z = z
  exact IntWalk.i64_in _ (by omega)
theorem uns_2 (z : Int) : uns z 2 = z ↔ (z = 0 ∨ (0 < z ∧ z ≤ 65535)) := by
  show z % 65536 = z ↔ _
  omega
theorem cut_ok {t : Int} {s : ByteArray} {n a b : Int} (hk : Cp.knownB t = true) (hn : I6 n) : cutW ⟨t, s, n, a, b⟩ (Cp.wd t) = ⟨t, s, n, a, b⟩ ↔ eOk t s n a b := by
  unfold Cp.knownB at hk
  have hk2 := of_decide_eq_true hk
  unfold cutW eOk
  simp only [Cp.C.mk.injEq, true_and]
  have e8 := sgn_8 hn
  have e4 := sgn_4 n
  have e0 := sgn_0 n
  have u2 := uns_2 a
  have v2 := uns_2 b
  have u0 : uns a 0 = 0 := rfl
  have v0 : uns b 0 = 0 := rfl
  generalize hs0 : (⟨#[]⟩ : ByteArray) = s0
  have hw : (n = 0 ∨ n = IntKind.i32.wrap n) ↔ n = IntKind.i32.wrap n := by
    constructor
    · rintro (rfl | h)
      · rfl
      · exact h
    · exact .inr
  rcases hk2 with rfl | rfl | rfl | rfl | rfl | rfl | rfl
  all_goals simp [Cp.wd, e8, e4, e0, u2, v2, u0, v0, hw, eq_comm]
  all_goals simp only [and_comm, and_left_comm, and_assoc]
theorem ce_no {t : Int} {s : ByteArray} {n a b : Int} (hk : Cp.knownB t = true) (hn : I6 n) (h : ¬ eOk t s n a b) : ceOut ⟨t, s, n, a, b⟩ = 31 := by
  unfold ceOut
  exact if_pos (.inr fun e => h ((cut_ok hk hn).1 e))
theorem ce_yes {t : Int} {s : ByteArray} {n a b : Int} (hk : Cp.knownB t = true) (hn : I6 n) (h : eOk t s n a b) : ceOut ⟨t, s, n, a, b⟩ = if (Cp.plainB (Cp.bl s) && decide (s.size ≤ 255)) = true then 0 else 32 := by
  unfold ceOut
  rw [if_neg (by rintro (e | e); rw [hk] at e; cases e; exact e ((cut_ok hk hn).2 h))]
  dsimp only
  cases Cp.plainB (Cp.bl s) with
  | false => simp
  | true =>
    by_cases h1 : s.size ≤ 255
    · rw [if_neg (by rintro (h | h); omega; cases h)]; simp [h1]
    · rw [if_pos (.inl (by omega))]; simp [h1]
set_option maxRecDepth 100000 in
set_option maxHeartbeats 4000000 in
theorem rentry_any (c : Cp.C) (w : World) (hs : c.s.size ≤ 140737488355328) (hn : I6 c.n) : Calls Tryd.prog 43 #[.agg (cC c)] w fun e w' => e = .returned (.int .i64 (ceOut c)) ∧ Below w.heap.size w w' := by
  obtain ⟨t, s, n, a, b⟩ := c
  dsimp only at hs hn
  have HX0 := fun W => texts_any s W hs
  have HK0 := fun W => known_any t W
  unfold cC
  dsimp only
  cases hk : Cp.knownB t with
  | false =>
    rw [hk] at HK0
    have HK := hid HK0
    have HE := hid (show ceOut ⟨t, s, n, a, b⟩ = 31 from if_pos (.inl hk))
    clear hk HK0 HX0 hs hn
    go_enter Tryd.func43, Tryd.ntmps43
    go_wp2_with (go_at_call 51; refine (HK.out _).mono ?_; rintro e w1 ⟨rfl, rfl⟩)
    go_ret
    exact ⟨by rw [HE.out]; rfl, (by repeat' first | with_reducible exact Below.refl _ _ | with_reducible assumption | with_reducible refine belows_drewN ?_ _ | with_reducible refine Below.drew ?_ | with_reducible refine Below.setCell ?_ ?_ _ | with_reducible refine Below.alloc ?_ ?_ _ | omega | (simp; done) | (simp; omega))⟩
  | true =>
  rw [hk] at HK0
  have HK := hid HK0
  have HN0 := (fun h => ce_no (s := s) (a := a) (b := b) hk hn h)
  have HY0 := (fun h => ce_yes (s := s) (a := a) (b := b) hk hn h)
  obtain ⟨er, her⟩ : ∃ er, er = ceOut ⟨t, s, n, a, b⟩ := ⟨_, rfl⟩
  rw [← her] at HN0 HY0 ⊢
  have HN := hid HN0
  obtain ⟨r, hr⟩ : ∃ r, r = (Cp.plainB (Cp.bl s) && decide (s.size ≤ 255)) := ⟨_, rfl⟩
  rw [← hr] at HX0 HY0
  have HY := hid HY0
  have HX := hid HX0
  clear HK0 HX0 HN0 HY0 her hs hn hr
  have hse : s = ⟨#[]⟩ ∨ (¬ s = ⟨#[]⟩ ∧ s.toList.isEmpty = false) := by
    by_cases e2 : s = ⟨#[]⟩
    · exact .inl e2
    · refine .inr ⟨e2, ?_⟩
      rw [ByteArray.toList_eq]
      cases hb : s.data.toList with
      | nil => exact absurd (ba_ext hb) e2
      | cons => rfl
  rcases of_decide_eq_true hk with rfl | rfl | rfl | rfl | ht
  case inr.inr.inr.inr =>
    have h1 : (t == 1) = false := by rw [beq_eq_false_iff_ne]; omega
    have h3 : (t == 3) = false := by rw [beq_eq_false_iff_ne]; omega
    have h5 : (t == 5) = false := by rw [beq_eq_false_iff_ne]; omega
    have h7 : decide (7 ≤ t) = true := by simp; omega
    have h8 : decide (7 < t) = true := by simp; omega
    have g1 : (t != 1) = true := by rw [bne_iff_ne]; omega
    have HT := hid ht
    clear hk ht
    rcases hse with rfl | ⟨q1, q2⟩
    all_goals (go_enter Tryd.func43, Tryd.ntmps43; go_wp2_with (first | (go_at_call 51; refine (HK.out _).mono ?_; rintro e w1 ⟨rfl, rfl⟩) | (go_at_call 53; refine (HX.out _).mono ?_; rintro e w1 ⟨rfl, rfl⟩; cases r)); all_goals go_ret; all_goals refine ⟨?_, (by repeat' first | with_reducible exact Below.refl _ _ | with_reducible assumption | with_reducible refine belows_drewN ?_ _ | with_reducible refine Below.drew ?_ | with_reducible refine Below.setCell ?_ ?_ _ | with_reducible refine Below.alloc ?_ ?_ _ | omega | (simp; done) | (simp; omega))⟩)
    all_goals have ht := HT.out
    all_goals have k1 : ¬ t = 1 := by omega
    all_goals have k3 : ¬ t = 3 := by omega
    all_goals have k5 : ¬ t = 5 := by omega
    all_goals have k7 : 7 ≤ t := by omega
    all_goals have k8 : 7 < t := by omega
    all_goals clear ht h1 h3 h5 h7 h8 g1
    all_goals (first | exact (congrArg (fun z => Ending.returned (.int .i64 z)) (HN.out (by unfold eOk; simp [*] <;> omega))).symm | exact (congrArg (fun z => Ending.returned (.int .i64 z)) (HY.out (by unfold eOk; simp [*]))).symm | (have hh := HY.out (by unfold eOk; simp [*]); rw [hh]; rfl))
  case inl =>
    clear hk
    (go_enter Tryd.func43, Tryd.ntmps43; go_wp2_with (first | (go_at_call 51; refine (HK.out _).mono ?_; rintro e w1 ⟨rfl, rfl⟩) | (go_at_call 53; refine (HX.out _).mono ?_; rintro e w1 ⟨rfl, rfl⟩; cases r)); all_goals go_ret; all_goals refine ⟨?_, (by repeat' first | with_reducible exact Below.refl _ _ | with_reducible assumption | with_reducible refine belows_drewN ?_ _ | with_reducible refine Below.drew ?_ | with_reducible refine Below.setCell ?_ ?_ _ | with_reducible refine Below.alloc ?_ ?_ _ | omega | (simp; done) | (simp; omega))⟩)
    all_goals (first | exact (congrArg (fun z => Ending.returned (.int .i64 z)) (HN.out (by unfold eOk; simp [*] <;> omega))).symm | exact (congrArg (fun z => Ending.returned (.int .i64 z)) (HY.out (by unfold eOk; simp [*]))).symm | (have hh := HY.out (by unfold eOk; simp [*]); rw [hh]; rfl))
  case inr.inl =>
    clear hk
    obtain ⟨m, hm⟩ : ∃ m, m = IntKind.i32.wrap n := ⟨_, rfl⟩
    have h32 : wrap64 (wrap32 n) = m := by rw [hm, IntKind.wrap_i32]; unfold wrap64 wrap32; omega
    have HW := hid (show (n = IntKind.i32.wrap n) ↔ (n == m) = true by rw [← hm]; simp)
    clear hm
    cases q3 : (n == m)
    all_goals rcases hse with rfl | ⟨q1, q2⟩
    all_goals (go_enter Tryd.func43, Tryd.ntmps43; go_wp2_with (first | (go_at_call 51; refine (HK.out _).mono ?_; rintro e w1 ⟨rfl, rfl⟩) | (go_at_call 53; refine (HX.out _).mono ?_; rintro e w1 ⟨rfl, rfl⟩; cases r)); all_goals go_ret; all_goals refine ⟨?_, (by repeat' first | with_reducible exact Below.refl _ _ | with_reducible assumption | with_reducible refine belows_drewN ?_ _ | with_reducible refine Below.drew ?_ | with_reducible refine Below.setCell ?_ ?_ _ | with_reducible refine Below.alloc ?_ ?_ _ | omega | (simp; done) | (simp; omega))⟩)
    all_goals have hww := HW.out
    all_goals rw [q3] at hww
    all_goals clear q3 h32
    all_goals (first | exact (congrArg (fun z => Ending.returned (.int .i64 z)) (HN.out (by unfold eOk; simp [*] <;> omega))).symm | exact (congrArg (fun z => Ending.returned (.int .i64 z)) (HY.out (by unfold eOk; simp [*]))).symm | (have hh := HY.out (by unfold eOk; simp [*]); rw [hh]; rfl))
  all_goals clear hk
  all_goals rcases hse with rfl | ⟨q1, q2⟩
  all_goals (go_enter Tryd.func43, Tryd.ntmps43; go_wp2_with (first | (go_at_call 51; refine (HK.out _).mono ?_; rintro e w1 ⟨rfl, rfl⟩) | (go_at_call 53; refine (HX.out _).mono ?_; rintro e w1 ⟨rfl, rfl⟩; cases r)); all_goals go_ret; all_goals refine ⟨?_, (by repeat' first | with_reducible exact Below.refl _ _ | with_reducible assumption | with_reducible refine belows_drewN ?_ _ | with_reducible refine Below.drew ?_ | with_reducible refine Below.setCell ?_ ?_ _ | with_reducible refine Below.alloc ?_ ?_ _ | omega | (simp; done) | (simp; omega))⟩)
  all_goals (first | exact (congrArg (fun z => Ending.returned (.int .i64 z)) (HN.out (by unfold eOk; simp [*] <;> omega))).symm | exact (congrArg (fun z => Ending.returned (.int .i64 z)) (HY.out (by unfold eOk; simp [*]))).symm | (have hh := HY.out (by unfold eOk; simp [*]); rw [hh]; rfl))
end Go.Proofs.YtljbcclfafndmaaDoor

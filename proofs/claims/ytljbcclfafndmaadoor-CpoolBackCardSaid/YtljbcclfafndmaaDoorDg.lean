/- Contract of the document's put. -/
import Derived.Test.YtljbcclfafndmaaDoorCr
namespace Go.Proofs.YtljbcclfafndmaaDoor
open Go.RowKit

set_option maxRecDepth 100000 in
set_option maxHeartbeats 1000000 in
theorem rwrite_any (base : Nat) (l : List Int) (v : Value) (z : Int) (size : Nat) (w : World) (ho : OwnI w base v l) (hb : base ≤ w.heap.size) (hl : l.length ≤ 1099511627776) (hs : size ≤ 8) :
    Calls Tryd.prog 41 #[v, .int .i64 z, .int .i64 size] w fun e w' => ∃ v', e = .returned v' ∧ OwnI w' base v' (l ++ bytesN z size) ∧ Kit.Grows w w' v v' := by
  have HO := hid ho
  obtain ⟨i0, hi, hz0, hz1, hz2⟩ := info_parts infoB
  clear ho
  have hw0 : IntKind.i64.wrap ((size : Int) - 1) = (size : Int) - 1 := IntWalk.i64_in _ (by omega)
  go_enter Tryd.func41, Tryd.ntmps41
  go_wp2
  go_loopw [0, 7] (fun u i wr => ∃ k : Nat, k ≤ size ∧ i = .int .i64 ((size : Int) - 1 - k) ∧ OwnI wr base u (l ++ (bytesN z size).take k) ∧ Kit.Grows w wr v u) (fun _ i _ => (intOf i + 1).toNat)
  case atStart => exact ⟨0, by omega, by simp, by rw [List.take_zero, List.append_nil]; exact HO.out, Kit.Grows.refl _ _⟩
  case round =>
    obtain ⟨k, hk, rfl, hown, hgr⟩ := hrel
    have hzr := hgr.size
    have hlk : (l ++ (bytesN z size).take k).length ≤ 1099511627776 + 8 := by rw [List.length_append, List.length_take, bytesN_len]; omega
    by_cases hlt : k < size
    · have hBy := hid (bytesN_take (z := z) hlt)
      obtain ⟨m, hm⟩ : ∃ m : Nat, (size : Int) - 1 - k = m := ⟨size - 1 - k, by omega⟩
      have hm7 : m ≤ 7 := by omega
      have hB := hid (show byteN z size k = z / 2 ^ (8 * m) % 256 by unfold byteN; rw [show size - 1 - k = m by omega])
      rw [hm]
      have hge : decide ((0 : Int) ≤ m) = true := by simp
      have hw1 : IntKind.i64.wrap (8 * (m : Int)) = ((8 * m : Nat) : Int) := by rw [IntWalk.i64_in _ (by omega)]; omega
      have hw2 : IntKind.i64.wrap ((m : Int) - 1) = (m : Int) - 1 := IntWalk.i64_in _ (by omega)
      have hnn : ¬ ((8 * m : Nat) : Int) < 0 := by omega
      go_wp2_with (at_builtin; refine wpList_append_own_at _ rfl (.tmp 14) (.tmp 20) 22 rfl base 5 i0 _ 1 1 Tryd.underlying22 hi hz0 hz1 hz2 rfl (by decide) _ _ _ rfl (World.ownsRow.alloc hown _) ⟨wr.heap.size, 0, none⟩ 1 1 [.int .u8 (z / 2 ^ (8 * m) % 256)] rfl rfl (Kit.news_one _ _ _) (Kit.ones_one rfl) (by unfold maxLen; omega) (by omega) (by simp only [World.size_alloc]; omega) ?_; intro v1 w1 ho1' hg1 _ hk1; have ho1 := OwnI.snoc ho1'; have G1 := Kit.grows_append ((Below.refl wr.heap.size wr).alloc (Nat.le_refl _) (.cells #[.int .u8 (z / 2 ^ (8 * m) % 256)] 5)) hg1 hk1; clear ho1' hg1 hk1)
      rw [← hB.out, List.append_assoc, ← hBy.out] at ho1
      go_roundw
      case rel => exact ⟨k + 1, by omega, by congr 1; omega, ho1, hgr.trans G1⟩
      case measure => simp [intOf] <;> omega
    · obtain rfl : k = size := by omega
      have HT := hid (show (bytesN z k).take k = bytesN z k from List.take_of_length_le (by rw [bytesN_len]; exact Nat.le_refl _))
      have hge : decide ((0 : Int) ≤ (k : Int) - 1 - k) = false := by simp; omega
      go_wp2
      go_ret
      exact ⟨_, rfl, by rw [← HT.out]; exact hown, hgr⟩
end Go.Proofs.YtljbcclfafndmaaDoor

/- Contract of Encode. -/
import Derived.Test.YtihklojiionanaaDoorOpX
namespace Go.Proofs.YtihklojiionanaaDoor
open Go.RowKit

theorem write_any (x : Op1.Ins) (B : Nat) (v : Value) (bs : List UInt8) (w : World) (hown : OwnB w B v bs) (hB : B ≤ w.heap.size) (hlen : bs.length ≤ 70368744177664) :
    Calls Tryd.prog 48 #[v, insV x, .int .i64 (Op1.formOf x.op : Nat)] w (WritePost B (bs ++ enc1 x) v w) := by
  have hf8 := Op1.formOf_le x.op
  unfold enc1
  generalize Op1.formOf x.op = f at *
  have all : f = 0 ∨ (f = 1 ∨ f = 4 ∨ f = 8 ∨ f = 2) ∨ (f = 3 ∨ f = 5) ∨ f = 6 ∨ f = 7 := by omega
  rcases all with rfl | h | h | rfl | rfl
  · exact write_zero x B v bs w hown hB hlen
  · have e : tail8 f x = [by8 x.a] := by unfold tail8; rw [if_pos h]
    rw [e]
    exact write_one x f h B v bs w hown hB hlen
  · have e : tail8 f x = [by8 (x.a / 256), by8 x.a] := by unfold tail8; rw [if_neg (by omega), if_pos h]
    rw [e]
    exact write_word x f h B v bs w hown hB hlen
  · exact write_jump x B v bs w hown hB hlen
  · exact write_inc x B v bs w hown hB hlen
theorem isB_of_own {w : World} {base : Nat} {v : Value} {bs : List UInt8} (h : OwnB w base v bs) (hn : bs.length ≤ 140737488355328) : IsB w v bs := by
  have hs := Kit.isS_of_owns h hn
  refine ⟨hn, ?_⟩
  rcases hs.2.2 with ⟨h0, a, cap, hv⟩ | ⟨b, o, cap, hv, hl, hlt, hc⟩
  · exact .inl ⟨List.length_eq_zero_iff.1 h0, a, cap, hv⟩
  · refine .inr ⟨b, o, cap, hv, hl, hlt, fun i hi => hc i _ ?_⟩
    unfold byteVals Op1.at8
    rw [List.getElem?_map, List.getElem?_eq_getElem hi, List.getD_eq_getElem?_getD, List.getElem?_eq_getElem hi]
    rfl
theorem nilB (w : World) (base : Nat) : OwnB w base (.slice none 0 0) [] := ⟨rfl, .inl ⟨rfl, rfl⟩⟩
theorem encGo_cons (x : Op1.Ins) (l : List Op1.Ins) (bs : List UInt8) : encGo (x :: l) bs = if Op1.isOp x.op = false then ([], 10) else if goodI x bs.length = false then ([], 13) else encGo l (bs ++ enc1 x) := rfl
def EncPost (l : List Op1.Ins) (w : World) (e : Ending) (w' : World) : Prop :=
  ∃ (v : Value) (bs : List UInt8) (er : Int), e = .returned (.tuple #[v, .int .i64 er]) ∧ encGo l [] = (bs, er) ∧ OwnB w' w.heap.size v bs ∧ Below w.heap.size w w'

set_option maxRecDepth 100000 in
set_option maxHeartbeats 1000000 in
theorem encode_any (l : List Op1.Ins) (v : Value) (w : World) (ht : Tabs w) (hl : Kit.IsS 4 w v l.length (insCells l)) (hn : l.length * 32 ≤ 140737488355328) :
    Calls Tryd.prog 29 #[v] w (EncPost l w) := by
  have hs0 := ht.size
  have HT := hid (fun W (h : Below w.heap.size w W) => ht.below h ht.size)
  have HL := hid hl
  obtain ⟨a, cap, hv⟩ := hl.len
  subst hv
  clear hl ht
  go_enter Tryd.func29, Tryd.ntmps29
  go_wp2
  go_loopw [15, 4] (fun i v wr => ∃ (k : Nat) (bs : List UInt8), k ≤ l.length ∧ i = .int .i64 k ∧ OwnB wr w.heap.size v bs ∧ Hid (encGo l [] = encGo (l.drop k) bs) ∧ bs.length ≤ 3 * k ∧ Below w.heap.size w wr) (fun i _ _ => l.length - (intOf i).toNat)
  case atStart => exact ⟨0, [], by omega, rfl, nilB _ _, rfl, by simp, (by repeat' first | with_reducible exact Below.refl _ _ | with_reducible assumption | with_reducible refine belows_drewN ?_ _ | with_reducible refine Below.drew ?_ | with_reducible refine Below.setCell ?_ ?_ _ | with_reducible refine Below.alloc ?_ ?_ _ | omega | (simp; done) | (simp; omega))⟩
  case round =>
    obtain ⟨k, bs, hk, rfl, hown, henc, h3, hbl⟩ := hrel
    have hzr := hbl.size
    obtain ⟨a1, cap1, hv1⟩ := (Kit.isS_of_owns hown (by omega)).len
    subst hv1
    by_cases hlt : k < l.length
    · obtain ⟨x, hx⟩ : ∃ x, l[k]? = some x := ⟨l[k], List.getElem?_eq_getElem hlt⟩
      obtain ⟨b, o, cap', hv, hb, c0, c1, c2, c3⟩ := ins_at (HL.out.below hbl (Nat.le_refl _)) hx
      obtain ⟨rfl, -, rfl⟩ := Value.slice.inj hv
      have hdrop : l.drop k = x :: l.drop (k + 1) := by
        rw [List.drop_eq_getElem_cons hlt]
        rw [List.getElem?_eq_getElem hlt] at hx
        rw [Option.some.inj hx]
      have henc' := henc.out
      rw [hdrop, encGo_cons] at henc'
      have HForm := hid (fun W (h : Below wr.heap.size wr W) => form_any x.op W (HT.out W (belows hbl h hzr)))
      unfold isV at HForm
      have hownlt := Kit.own_lt hown
      by_cases hop : Op1.isOp x.op = false
      · rw [if_pos hop] at henc'
        rw [hop] at HForm
        have HE := hid henc'
        generalize Op1.formOf x.op = f at *
        obtain ⟨xp, xop, xa, xb⟩ := x
        dsimp only at c0 c1 c2 c3 HForm
        clear henc' hdrop hx hv hop henc
        go_wp2_with (go_at_call 10; refine (HForm.out _ (by repeat' first | with_reducible exact Below.refl _ _ | with_reducible assumption | with_reducible refine belows_drewN ?_ _ | with_reducible refine Below.drew ?_ | with_reducible refine Below.setCell ?_ ?_ _ | with_reducible refine Below.alloc ?_ ?_ _ | omega | (simp; done) | (simp; omega))).mono ?_; rintro e w' ⟨rfl, rfl⟩)
        go_ret2
        exact ⟨_, _, _, rfl, HE.out, nilB _ _, (by repeat' first | with_reducible exact Below.refl _ _ | with_reducible assumption | with_reducible refine belows_drewN ?_ _ | with_reducible refine Below.drew ?_ | with_reducible refine Below.setCell ?_ ?_ _ | with_reducible refine Below.alloc ?_ ?_ _ | omega | (simp; done) | (simp; omega))⟩
      · rw [if_neg hop] at henc'
        have hop' : Op1.isOp x.op = true := by simpa using hop
        rw [hop'] at HForm
        have HW := hid (fun W (h : Below wr.heap.size wr W) => write_any x w.heap.size _ bs W (Kit.owns_below hown h (Nat.le_refl _)) (Nat.le_trans hzr h.size) (by omega))
        have HWr := hid (one_written bs x hop')
        have hel : (bs ++ enc1 x).length ≤ 3 * (k + 1) := by
          rw [List.length_append, enc1_len]
          have := bh_le (Op1.formOf x.op)
          omega
        obtain ⟨f, hf⟩ : ∃ f, f = Op1.formOf x.op := ⟨_, rfl⟩
        rw [← hf] at HForm HW
        obtain ⟨b', hb'⟩ : ∃ b', b' = bs ++ enc1 x := ⟨_, rfl⟩
        rw [← hb'] at HW HWr hel henc'
        have HB' := hid hb'
        have HE := hid henc'
        obtain ⟨xp, xop, xa, xb⟩ := x
        dsimp only at c0 c1 c2 c3 HForm
        unfold insV at HW
        clear henc' hdrop hx hv hop hop' henc hf hb'
        go_wp2_with (go_at_call 10; refine (HForm.out _ (by repeat' first | with_reducible exact Below.refl _ _ | with_reducible assumption | with_reducible refine belows_drewN ?_ _ | with_reducible refine Below.drew ?_ | with_reducible refine Below.setCell ?_ ?_ _ | with_reducible refine Below.alloc ?_ ?_ _ | omega | (simp; done) | (simp; omega))).mono ?_; rintro e w' ⟨rfl, rfl⟩)
        refine (HW.out _ (by repeat' first | with_reducible exact Below.refl _ _ | with_reducible assumption | with_reducible refine belows_drewN ?_ _ | with_reducible refine Below.drew ?_ | with_reducible refine Below.setCell ?_ ?_ _ | with_reducible refine Below.alloc ?_ ?_ _ | omega | (simp; done) | (simp; omega))).mono ?_
        rintro e w2 ⟨v1, rfl, hown1, hgr⟩
        obtain ⟨a2, cap2, hv2⟩ := (Kit.isS_of_owns hown1 (by omega)).len
        subst hv2
        have hz2 := hgr.size
        simp only [World.size_alloc] at hz2
        have hcx : ∀ j, w2.cell? ⟨wr.heap.size, j, none⟩ = (#[Value.int .i64 xp, .int .i64 xop, .int .i64 xa, .int .i64 xb])[j]? := by
          intro j
          rw [hgr.cell (by simp) (fun g hg => by have := hownlt g hg; omega), World.cell?_alloc_at _ _ _ _ rfl]
        have k0 := hcx 0
        have k1 := hcx 1
        have k2 := hcx 2
        have k3 := hcx 3
        have hb2 : Below w.heap.size w w2 := hgr.to_below (by repeat' first | with_reducible exact Below.refl _ _ | with_reducible assumption | with_reducible refine belows_drewN ?_ _ | with_reducible refine Below.drew ?_ | with_reducible refine Below.setCell ?_ ?_ _ | with_reducible refine Below.alloc ?_ ?_ _ | omega | (simp; done) | (simp; omega)) (by simp only [World.size_alloc]; omega) (Kit.own_base hown)
        have HO1 := hid hown1
        clear hcx hgr hown1 HW HForm
        go_wp2_with fail
        refine (one_any b' _ _ _ (HT.out _ hb2) (isB_of_own HO1.out (by omega))).mono ?_
        rintro e w3 ⟨rfl, hb3⟩
        obtain ⟨hcc, hff⟩ := bcell hb3
        have hz3 := hb3.size
        have hz4 : wr.heap.size < w3.heap.size := by omega
        have hz5 : wr.heap.size < w2.heap.size := by omega
        have hb3' := belows hb2 hb3 (by omega)
        cases hg : goodI ⟨xp, xop, xa, xb⟩ bs.length with
        | true =>
          have hone := HWr.out.1 hg
          rw [hone]
          have HE2 := HE.out
          rw [if_neg (by rw [hg]; simp)] at HE2
          have HE3 := hid HE2
          unfold oneV insV
          clear hone HE2 hg HE HWr
          go_wp2
          go_roundw
          case rel => exact ⟨k + 1, b', by omega, by go_num, Kit.owns_below (Kit.owns_below HO1.out hb3 (Nat.le_refl _)) (Below.alloc (Below.refl _ _) (Nat.le_refl _) _) (Nat.le_refl _), HE3, hel, (by repeat' first | with_reducible exact Below.refl _ _ | with_reducible assumption | with_reducible refine belows_drewN ?_ _ | with_reducible refine Below.drew ?_ | with_reducible refine Below.setCell ?_ ?_ _ | with_reducible refine Below.alloc ?_ ?_ _ | omega | (simp; done) | (simp; omega))⟩
          case measure => simp [intOf]; omega
        | false =>
          have hone := HWr.out.2 hg
          have HE2 := HE.out
          rw [if_pos hg] at HE2
          have HE3 := hid HE2
          clear HE2 hg HE HWr
          generalize Op1.one b' bs.length = r at *
          obtain ⟨⟨yp, yop, ya, yb⟩, q, er⟩ := r
          dsimp only at hone
          unfold oneV insV
          by_cases her : er = 0
          · subst her
            have hne : (⟨yp, yop, ya, yb⟩ : Op1.Ins) ≠ ⟨xp, xop, xa, xb⟩ := by
              rcases hone with h | h
              · exact absurd rfl h
              · exact h.2
            have hne' := ins_ne hne
            clear hone hne
            rcases hne' with h | ⟨rfl, h⟩ | ⟨rfl, rfl, h⟩ | ⟨rfl, rfl, rfl, h⟩
            · have hq : (yp == xp) = false := by simpa using h
              clear h
              (go_wp2; go_ret2; exact ⟨_, _, _, rfl, HE3.out, nilB _ _, (by repeat' first | with_reducible exact Below.refl _ _ | with_reducible assumption | with_reducible refine belows_drewN ?_ _ | with_reducible refine Below.drew ?_ | with_reducible refine Below.setCell ?_ ?_ _ | with_reducible refine Below.alloc ?_ ?_ _ | omega | (simp; done) | (simp; omega))⟩)
            · have hq : (yop == xop) = false := by simpa using h
              clear h
              (go_wp2; go_ret2; exact ⟨_, _, _, rfl, HE3.out, nilB _ _, (by repeat' first | with_reducible exact Below.refl _ _ | with_reducible assumption | with_reducible refine belows_drewN ?_ _ | with_reducible refine Below.drew ?_ | with_reducible refine Below.setCell ?_ ?_ _ | with_reducible refine Below.alloc ?_ ?_ _ | omega | (simp; done) | (simp; omega))⟩)
            · have hq : (ya == xa) = false := by simpa using h
              clear h
              (go_wp2; go_ret2; exact ⟨_, _, _, rfl, HE3.out, nilB _ _, (by repeat' first | with_reducible exact Below.refl _ _ | with_reducible assumption | with_reducible refine belows_drewN ?_ _ | with_reducible refine Below.drew ?_ | with_reducible refine Below.setCell ?_ ?_ _ | with_reducible refine Below.alloc ?_ ?_ _ | omega | (simp; done) | (simp; omega))⟩)
            · have hq : (yb == xb) = false := by simpa using h
              clear h
              (go_wp2; go_ret2; exact ⟨_, _, _, rfl, HE3.out, nilB _ _, (by repeat' first | with_reducible exact Below.refl _ _ | with_reducible assumption | with_reducible refine belows_drewN ?_ _ | with_reducible refine Below.drew ?_ | with_reducible refine Below.setCell ?_ ?_ _ | with_reducible refine Below.alloc ?_ ?_ _ | omega | (simp; done) | (simp; omega))⟩)
          · have hq : (er != 0) = true := by simpa using her
            clear her hone
            (go_wp2; go_ret2; exact ⟨_, _, _, rfl, HE3.out, nilB _ _, (by repeat' first | with_reducible exact Below.refl _ _ | with_reducible assumption | with_reducible refine belows_drewN ?_ _ | with_reducible refine Below.drew ?_ | with_reducible refine Below.setCell ?_ ?_ _ | with_reducible refine Below.alloc ?_ ?_ _ | omega | (simp; done) | (simp; omega))⟩)
    · have hk' : k = l.length := by omega
      have hd : l.drop k = [] := by rw [hk']; simp
      have henc' := henc.out
      rw [hd] at henc'
      have hgo : encGo [] bs = if 4096 < bs.length then ([], 3) else (bs, 0) := rfl
      rw [hgo] at henc'
      subst hk'
      by_cases hbig : 4096 < bs.length
      · rw [if_pos hbig] at henc'
        have HE := hid henc'
        clear henc' henc hgo hd
        have hd1 : decide (4096 < (bs.length : Int)) = true := by simp; omega
        go_wp2
        go_ret2
        exact ⟨_, _, _, rfl, HE.out, nilB _ _, (by repeat' first | with_reducible exact Below.refl _ _ | with_reducible assumption | with_reducible refine belows_drewN ?_ _ | with_reducible refine Below.drew ?_ | with_reducible refine Below.setCell ?_ ?_ _ | with_reducible refine Below.alloc ?_ ?_ _ | omega | (simp; done) | (simp; omega))⟩
      · rw [if_neg hbig] at henc'
        have HE := hid henc'
        clear henc' henc hgo hd
        have hd1 : decide (4096 < (bs.length : Int)) = false := by simp; omega
        go_wp2
        go_ret2
        exact ⟨_, _, _, rfl, HE.out, hown, (by repeat' first | with_reducible exact Below.refl _ _ | with_reducible assumption | with_reducible refine belows_drewN ?_ _ | with_reducible refine Below.drew ?_ | with_reducible refine Below.setCell ?_ ?_ _ | with_reducible refine Below.alloc ?_ ?_ _ | omega | (simp; done) | (simp; omega))⟩
end Go.Proofs.YtihklojiionanaaDoor

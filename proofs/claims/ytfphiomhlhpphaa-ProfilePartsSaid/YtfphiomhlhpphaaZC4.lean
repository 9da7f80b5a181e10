/- ProfileParts is true for every two scripts, without a condition. -/
import Derived.Test.YtfphiomhlhpphaaZC3
import Derived.Test.YtfphiomhlhpphaaRows
import Derived.ProofKit
import Derived.OpenShut
import Derived.ChangeSlices
import Derived.Deep.DeepHandedRow
import Derived.Lib.LaidTab
namespace Go.Proofs.Ytfphiomhlhpphaa
open Go Go.RowKit
open Pf (Site Sn ix addk alt keys)
set_option maxRecDepth 100000
set_option maxHeartbeats 2000000
def s12 : Site := (1, 2)
theorem s12_ok : TS.ok s12 := ⟨⟨by decide, by decide⟩, ⟨by decide, by decide⟩⟩
/-- A block of one's own beside a profile. -/
structure Bes (w : World) (base pb : Nat) (p : IV) (n : Nat) (t : Pf.St) (bs : Nat) : Prop where
  pp : PP w base pb p
  ok : OkP p n
  st : p.st = t
  bx : BX w bs #[.int .i64 1, .int .i64 2] 29
  off : ¬ p.foot bs
  lo : base ≤ w.heap.size
theorem Bes.step {w w' : World} {base pb bs n m : Nat} {p : IV} {t t' : Pf.St} (h : Bes w base pb p n t bs) (hs : Step w w' base pb p m t') : ∃ p', Bes w' base pb p' m t' bs ∧ Below base w w' := by
  obtain ⟨p', h1, h2, h3, h4, h5⟩ := hs
  refine ⟨p', ⟨h1, h2, h3, h.bx.chg h4 h.off, fun e => ?_, Nat.le_trans h.lo h4.size⟩, h4.to_below (fun k hk => h.pp.has.low k hk) h.lo⟩
  rcases h5 bs e with e | e
  · exact h.off e
  · have := h.bx.sz
    omega
theorem Bes.call {w : World} {base pb bs n : Nat} {p : IV} {t : Pf.St} (h : Bes w base pb p n t bs) (hn : n < 9000000000000) {k : Int} (hk : I8 k) {q : Int} (hq : Pf.kind (Pf.cnt (t.ca s12) k 1) = q) :
    Calls Try.prog 14 #[.pointer (some ⟨pb, 0, none⟩), .agg #[.int .i64 1, .int .i64 2], .int .i64 k] w fun e w' => e = .returned (.int .i64 q) ∧ ∃ p', Bes w' base pb p' (n + 1) (t.call s12 k 1) bs ∧ Below base w w' := by
  have := callS h.pp h.lo h.ok hn s12_ok hk
  rw [h.st] at this
  refine this.mono ?_
  rintro e w' ⟨rfl, hs⟩
  exact ⟨by rw [hq], h.step hs⟩
def b1 : Pf.St := Pf.st0.call s12 8 1
def b2 : Pf.St := b1.call s12 8 1
def b3 : Pf.St := b2.call s12 9 1
theorem begun_any (w : World) : Calls Try.prog 9 #[] w fun e w' => e = .returned (.bool true) ∧ Below w.heap.size w w' := by
  have HN := hid (newS w)
  have HC1 := hid (fun W pb p bs (h : Bes W w.heap.size pb p 0 Pf.st0 bs) => h.call (by decide) (k := 8) ⟨by decide, by decide⟩ (q := 1) (by decide))
  have HC2 := hid (fun W pb p bs (h : Bes W w.heap.size pb p 1 b1 bs) => h.call (by decide) (k := 8) ⟨by decide, by decide⟩ (q := 1) (by decide))
  have HC3 := hid (fun W pb p bs (h : Bes W w.heap.size pb p 2 b2 bs) => h.call (by decide) (k := 9) ⟨by decide, by decide⟩ (q := 2) (by decide))
  have HM := hid (fun W pb p bs (h : Bes W w.heap.size pb p 3 b3 bs) => (show Calls Try.prog 23 #[.pointer (some ⟨pb, 0, none⟩), .agg #[.int .i64 1, .int .i64 2]] W fun e w' => e = .returned (.tuple #[.int .i64 8, .bool true]) ∧ Below W.heap.size W w' from by
    have := mainS h.pp h.ok s12_ok
    rw [h.st] at this
    exact this))
  have HE1 := hid (fun W pb p n (h : PP W w.heap.size pb p) (ok : OkP p n) (hn : n < 100) (hs : p.st = b3) => (show Calls Try.prog 12 #[.pointer (some ⟨pb, 0, none⟩), .int .i64 3] W fun e w' => e = .returned (.int .i64 1) ∧ Step W w' w.heap.size pb p (n + 1) (b3.enter 3) from by
    have := enterS h ok (by omega) (f := 3) ⟨by decide, by decide⟩
    rw [hs] at this
    exact this))
  have HE2 := hid (fun W pb p n (h : PP W w.heap.size pb p) (ok : OkP p n) (hn : n < 100) (hs : p.st = b3.enter 3) => (show Calls Try.prog 12 #[.pointer (some ⟨pb, 0, none⟩), .int .i64 3] W fun e w' => e = .returned (.int .i64 2) ∧ Step W w' w.heap.size pb p (n + 1) ((b3.enter 3).enter 3) from by
    have := enterS h ok (by omega) (f := 3) ⟨by decide, by decide⟩
    rw [hs] at this
    exact this))
  go_enter Try.func9, Try.ntmps9
  go_upto_region 5 with (go_at_call 7; refine HN.out.mono ?_; rintro e w1 ⟨pb, p, rfl, h1, h2, h3, h4⟩; have HP := hid (And.intro h1 (And.intro h2 (And.intro h3 h4))); clear h1 h2 h3 h4)
  refine region_named fun W2 hW2 => ?_
  have hb2 : Below w1.heap.size w1 W2 := by rw [hW2]; exact (Below.refl _ _).alloc (Nat.le_refl _) _
  have bx : BX W2 w1.heap.size #[.int .i64 1, .int .i64 2] 29 := by rw [hW2]; exact BX.new w1 _ _
  have hbw := belows HP.out.2.2.2 hb2 HP.out.2.2.2.size
  have HB0 : Hid (Bes W2.drew w.heap.size pb p 0 Pf.st0 w1.heap.size ∧ Below w.heap.size w W2.drew) :=
    ⟨⟨(HP.out.1.below hb2).below (Below.drew (Below.refl _ _)), HP.out.2.1, HP.out.2.2.1, bx, fun e => by have := HP.out.1.has.lt _ e; omega, hbw.size⟩, Below.drew hbw⟩
  have x0 : W2.cell? ⟨w1.heap.size, 0, none⟩ = some (.int .i64 1) := bx.cell 0
  have x1 : W2.cell? ⟨w1.heap.size, 1, none⟩ = some (.int .i64 2) := bx.cell 1
  clear hW2 hb2 bx hbw HP
  go_region_held3 (fun X => X.cell? ⟨w1.heap.size, 0, none⟩ = some (.int .i64 1) ∧ X.cell? ⟨w1.heap.size, 1, none⟩ = some (.int .i64 2))
    (first | exact ⟨x0, x1⟩ | go_keep)
    (first
      | ((fail_if_success (have _g := HB1)); go_at_call 14; (with_reducible refine (HC1.out _ _ _ _ HB0.out.1).mono ?_); rintro e X1 ⟨rfl, p1, h1, hb⟩; have HB1 := hid (And.intro h1 (HB0.out.2.trans hb)); clear x0 x1; have x0 : X1.cell? ⟨w1.heap.size, 0, none⟩ = some (.int .i64 1) := h1.bx.cell 0; have x1 : X1.cell? ⟨w1.heap.size, 1, none⟩ = some (.int .i64 2) := h1.bx.cell 1; clear h1 hb)
      | (have _g := HB1; (fail_if_success (have _g := HB2)); go_at_call 14; (with_reducible refine (HC2.out _ _ _ _ HB1.out.1).mono ?_); rintro e X2 ⟨rfl, p2, h1, hb⟩; have HB2 := hid (And.intro h1 (HB1.out.2.trans hb)); clear x0 x1; have x0 : X2.cell? ⟨w1.heap.size, 0, none⟩ = some (.int .i64 1) := h1.bx.cell 0; have x1 : X2.cell? ⟨w1.heap.size, 1, none⟩ = some (.int .i64 2) := h1.bx.cell 1; clear h1 hb)
      | (have _g := HB2; go_at_call 14; (with_reducible refine (HC3.out _ _ _ _ HB2.out.1).mono ?_); rintro e X3 ⟨rfl, p3, h1, hb⟩; have HB3 := hid (And.intro h1 (HB2.out.2.trans hb)); clear x0 x1; have x0 : X3.cell? ⟨w1.heap.size, 0, none⟩ = some (.int .i64 1) := h1.bx.cell 0; have x1 : X3.cell? ⟨w1.heap.size, 1, none⟩ = some (.int .i64 2) := h1.bx.cell 1; clear h1 hb))
  go_wp2_with (first
    | (go_at_call 23; refine (HM.out _ _ _ _ HB3.out.1).mono ?_; rintro e X4 ⟨rfl, hb⟩; have HB4 : Hid (PP X4 w.heap.size pb p3 ∧ OkP p3 3 ∧ p3.st = b3 ∧ Below w.heap.size w X4) := ⟨HB3.out.1.pp.below hb, HB3.out.1.ok, HB3.out.1.st, belows HB3.out.2 hb HB3.out.2.size⟩; clear hb)
    | ((fail_if_success (have _g := HB5)); go_at_call 12; refine (HE1.out _ _ _ _ HB4.out.1 HB4.out.2.1 (by decide) HB4.out.2.2.1).mono ?_; rintro e X5 ⟨rfl, p5, h1, h2, h3, h4, h5⟩; have HB5 : Hid (PP X5 w.heap.size pb p5 ∧ OkP p5 4 ∧ p5.st = b3.enter 3 ∧ Below w.heap.size w X5) := ⟨h1, h2, h3, HB4.out.2.2.2.trans (h4.to_below (fun k hk => HB4.out.1.has.low k hk) HB4.out.2.2.2.size)⟩; clear h1 h2 h3 h4 h5)
    | (have _g := HB5; go_at_call 12; refine (HE2.out _ _ _ _ HB5.out.1 HB5.out.2.1 (by decide) HB5.out.2.2.1).mono ?_; rintro e X6 ⟨rfl, p6, h1, h2, h3, h4, h5⟩; have HB6 : Hid (Below w.heap.size w X6) := HB5.out.2.2.2.trans (h4.to_below (fun k hk => HB5.out.1.has.low k hk) HB5.out.2.2.2.size); clear h1 h2 h3 h4 h5))
  go_ret
  exact ⟨rfl, HB6.out⟩
end Go.Proofs.Ytfphiomhlhpphaa
namespace Go.Proofs.Ytfphiomhlhpphaa
open Go Go.RowKit Go.ChangeMaps Go.MapKept
open Go.WideElems (Fit rd_key)
open Pf (ix addk alt keys)
theorem setBlock_twice (w : World) (b : Nat) (x y : Obj) : setBlock (setBlock w b x) b y = setBlock w b y := by
  unfold setBlock
  simp
theorem heap_setBlock_at {w : World} {b : Nat} {o : Obj} (h : w.heap[b]? = some o) (o' : Obj) : (setBlock w b o').heap[b]? = some o' := by
  have := (Array.getElem?_eq_some_iff.1 h).1
  unfold setBlock
  simp [this]
theorem modify_push {α : Type} (xs : Array α) (x : α) (f : α → α) : (xs.push x).modify xs.size f = xs.push (f x) := by
  apply Array.ext
  · simp
  · intro i h1 h2
    simp only [Array.getElem_modify, Array.getElem_push]
    by_cases e : i < xs.size
    · rw [dif_pos e, dif_pos e, if_neg (by omega)]
    · rw [dif_neg e, dif_neg e, if_pos (by simp at h2; omega)]
theorem modify_eq_of {α : Type} {xs : Array α} {j : Nat} {f g : α → α} (h : ∀ x, xs[j]? = some x → f x = g x) : xs.modify j f = xs.modify j g := by
  apply Array.ext
  · simp
  · intro i h1 h2
    simp only [Array.getElem_modify]
    by_cases e : j = i
    · subst e
      rw [if_pos rfl, if_pos rfl]
      exact h _ (by rw [Array.getElem?_eq_getElem])
    · rw [if_neg e, if_neg e]
theorem modify_modify {α : Type} (xs : Array α) (j : Nat) (f g : α → α) : (xs.modify j f).modify j g = xs.modify j (fun x => g (f x)) := by
  apply Array.ext
  · simp
  · intro i h1 h2
    simp only [Array.getElem_modify]
    by_cases e : j = i
    · rw [if_pos e, if_pos e, if_pos e]
    · rw [if_neg e, if_neg e, if_neg e]
/-- The entry, then its element: what a store does. -/
theorem entry_runs {P : Program} {k t e : TypeId} {b : Nat} {w : World} {es : Array MapEntry} {clock : Nat} {H : Type} {R : Value → Option (DataW H × List MemPlace)} (K : Maps.Keyed P k) (ht : P.underlying t = some (.map k e)) (hb : w.heap[b]? = some (.map es clock)) (F : Fit P k R es clock)
    {key z : Value} {kl : Lit} (hkey : keyOf P k key = some kl) (hz : ∀ w, (zeroValue e).run P w = .ok z w) :
    ∃ (c : Nat) (u : Value) (w1 : World), (Instr.lookup t (.map (some b)) key false).run P w = .ok u w ∧ (Instr.mapEntry t (.map (some b)) key).run P w = .ok (.tuple #[u, .int .i64 (c : Int)]) w1 ∧ (Instr.mapUpdate t (.map (some b)) key u).run P w = .ok () w1 ∧
      ∀ v, (Instr.entryStore t (.map (some b)) (.int .i64 (c : Int)) v).run P w1 = (Instr.mapUpdate t (.map (some b)) key v).run P w := by
  have hst := (stamped_iff es clock).1 F.stamped
  rcases K.find w hkey es.toList F.keys with ⟨h1, h2⟩ | ⟨j, e0, h1, h2, h3⟩
  · refine ⟨clock, z, setBlock w b (.map (es.push ⟨key, z, clock⟩) (clock + 1)), ?_, ?_, ?_, fun v => ?_⟩
    · simp [Instr.lookup, run_underlying ht, MapKept.run_getObj_map hb, K.check w _ hkey, h1, hz, Result.andThen]
    · simp [Instr.mapEntry, run_underlying ht, MapKept.run_getObj_map hb, K.check w false hkey, h1, hz, MapKept.run_setObj_map _ hb, Result.andThen, setBlock, goInt]
    · simp [Instr.mapUpdate, run_underlying ht, MapKept.run_getObj_map hb, K.check w false hkey, h1, MapKept.run_setObj_map _ hb, Result.andThen, setBlock]
    · have hb1 := heap_setBlock_at hb (.map (es.push ⟨key, z, clock⟩) (clock + 1))
      have hfi : (es.push (⟨key, z, clock⟩ : MapEntry)).findIdx? (fun e => (e.born : Int) == (clock : Int)) = some es.size := by
        rw [Array.findIdx?_eq_some_iff_getElem]
        refine ⟨by simp, by simp, fun j hj => ?_⟩
        have := hst.1 es[j] (by simp)
        rw [Array.getElem_push_lt hj]
        simp
        omega
      have e1 : (Instr.entryStore t (.map (some b)) (.int .i64 (clock : Int)) v).run P (setBlock w b (.map (es.push ⟨key, z, clock⟩) (clock + 1))) = .ok () (setBlock w b (.map (es.push ⟨key, v, clock⟩) (clock + 1))) := by
        simp [Instr.entryStore, MapKept.run_getObj_map hb1, asInt, asIntOf, hfi, MapKept.run_setObj_map _ hb1, Result.andThen]
        rw [modify_push]
        exact setBlock_twice _ _ _ _
      rw [e1]
      simp [Instr.mapUpdate, run_underlying ht, MapKept.run_getObj_map hb, K.check w false hkey, h1, MapKept.run_setObj_map _ hb, Result.andThen, setBlock]
  · have hj : es[j]? = some e0 := by simpa using h2
    have hjs : j < es.size := (Array.getElem?_eq_some_iff.1 hj).1
    have hje : es[j] = e0 := (Array.getElem?_eq_some_iff.1 hj).2
    refine ⟨e0.born, e0.val, setBlock w b (.map (es.modify j fun e => { e with key }) clock), ?_, ?_, ?_, fun v => ?_⟩
    · simp [Instr.lookup, run_underlying ht, MapKept.run_getObj_map hb, K.check w _ hkey, h1, Result.andThen]
    · simp [Instr.mapEntry, run_underlying ht, MapKept.run_getObj_map hb, K.check w false hkey, h1, hj, h3, K.stays w hkey, MapKept.run_setObj_map _ hb, Result.andThen, setBlock, goInt]
    · simp [Instr.mapUpdate, run_underlying ht, MapKept.run_getObj_map hb, K.check w false hkey, h1, hj, h3, K.stays w hkey, MapKept.run_setObj_map _ hb, Result.andThen, setBlock]
      congr 2
      refine modify_eq_of fun x hx => ?_
      rw [hj] at hx
      obtain rfl := Option.some.inj hx
      rfl
    · have hb1 := heap_setBlock_at hb (.map (es.modify j fun e => { e with key }) clock)
      have hfi : (es.modify j fun e => { e with key }).findIdx? (fun e => (e.born : Int) == (e0.born : Int)) = some j := by
        rw [Array.findIdx?_eq_some_iff_getElem]
        refine ⟨by simpa using hjs, by simp [Array.getElem_modify, hje], fun i hi => ?_⟩
        have hlt : i < es.size := by omega
        have hne : es[i].born ≠ e0.born := fun e => by
          have h5 : (es.toList.map (·.born))[i]? = (es.toList.map (·.born))[j]? := by
            rw [List.getElem?_map, List.getElem?_map, Array.getElem?_toList, Array.getElem?_toList, hj, Array.getElem?_eq_getElem hlt, Option.map_some, Option.map_some, e]
          have := (List.getElem?_inj (by simpa using hlt) hst.2.1).1 h5
          omega
        simp only [Array.getElem_modify, beq_iff_eq]
        rw [if_neg (by omega)]
        omega
      have e1 : (Instr.entryStore t (.map (some b)) (.int .i64 (e0.born : Int)) v).run P (setBlock w b (.map (es.modify j fun e => { e with key }) clock)) = .ok () (setBlock w b (.map (es.modify j fun e => { e with key, val := v }) clock)) := by
        simp [Instr.entryStore, MapKept.run_getObj_map hb1, asInt, asIntOf, hfi, MapKept.run_setObj_map _ hb1, Result.andThen]
        rw [modify_modify]
        exact setBlock_twice _ _ _ _
      rw [e1]
      simp [Instr.mapUpdate, run_underlying ht, MapKept.run_getObj_map hb, K.check w false hkey, h1, hj, h3, K.stays w hkey, MapKept.run_setObj_map _ hb, Result.andThen, setBlock]
section
variable {κ β : Type} [DecidableEq κ] {T : KT κ} {val : β → Value} {w : World} {b : Nat} {L : List (κ × β)}
theorem MapL.entry (h : MapL T val w b L) (hT : T.Is) {t e : TypeId} (ht : Try.prog.underlying t = some (.map T.t e)) (d : β) (hz : ∀ w, (zeroValue e).run Try.prog w = .ok (val d) w) (hn : L.length < maxLen) {k : κ} (hk : T.ok k) :
    ∃ (c : Nat) (w1 : World), (Instr.mapEntry t (.map (some b)) (T.mkv k)).run Try.prog w = .ok (.tuple #[val (Pf.look d L k), .int .i64 (c : Int)]) w1 ∧ (Instr.lookup t (.map (some b)) (T.mkv k) false).run Try.prog w1 = .ok (val (Pf.look d L k)) w1 ∧ w.grownBy w1 (some b) ∧
      ∀ v : β, ∃ w2, (Instr.entryStore t (.map (some b)) (.int .i64 (c : Int)) (val v)).run Try.prog w1 = .ok () w2 ∧ MapL T val w2 b (alt d L k (fun _ => v)) ∧ w.grownBy w2 (some b) := by
  have hlk := h.look hT ht d (hz w) hk
  have hput := fun v => h.put hT ht d hn hk v
  obtain ⟨D, ⟨es, clock, hb, F, -, -⟩, -⟩ := h
  obtain ⟨c, u, w1, r1, r2, r3, r4⟩ := entry_runs hT.keyed ht hb F (hT.of hk) hz
  rw [hlk] at r1
  obtain rfl : u = val (Pf.look d L k) := by
    have := r1
    simp only [Result.ok.injEq] at this
    exact this.1.symm
  obtain ⟨w1', q1, q2, q3⟩ := hput (Pf.look d L k)
  rw [r3] at q1
  simp only [Result.ok.injEq, true_and] at q1
  subst q1
  refine ⟨c, w1, r2, ?_, q3, fun v => ?_⟩
  · have := q2.look hT ht d (hz w1) hk
    rw [Pf.look_alt, if_pos rfl] at this
    exact this
  · obtain ⟨w2, s1, s2, s3⟩ := hput v
    exact ⟨w2, (r4 _).trans s1, s2, s3⟩
end
end Go.Proofs.Ytfphiomhlhpphaa
namespace Go.Proofs.Ytfphiomhlhpphaa.Pf

/-- An operation of a script, as far as counting asks. -/
structure O where
  d : Int
  f : Int
  x : Site
  k : Int
  least : Int
def step1 (s : St) (o : O) : St := if o.d = 0 then s.enter o.f else if o.d = 1 then s.back o.x else s.call o.x o.k 1
def run (l : List O) : St := l.foldl step1 st0
def sat (n : Nat) : Int := if (n : Int) ≤ M then (n : Int) else M
def isE (f : Int) (o : O) : Bool := decide (o.d = 0 ∧ o.f = f)
def isJ (x : Site) (o : O) : Bool := decide (o.d = 1 ∧ o.x = x)
def isC (x : Site) (o : O) : Bool := decide (¬ o.d = 0 ∧ ¬ o.d = 1 ∧ o.x = x)
def isK (x : Site) (k : Int) (o : O) : Bool := decide (¬ o.d = 0 ∧ ¬ o.d = 1 ∧ o.x = x ∧ o.k = k)
def nE (l : List O) (f : Int) : Nat := l.countP (isE f)
def nJ (l : List O) (x : Site) : Nat := l.countP (isJ x)
def nC (l : List O) (x : Site) : Nat := l.countP (isC x)
def nK (l : List O) (x : Site) (k : Int) : Nat := l.countP (isK x k)
theorem M_pos : (0 : Int) < M := by unfold M; omega
theorem sat_more (n m : Nat) : more (sat n) (sat m) = sat (n + m) := by
  have := M_pos
  unfold more sat
  repeat' split
  all_goals omega
theorem sat_one : sat 1 = 1 := by
  unfold sat M
  omega
theorem sat_zero : sat 0 = 0 := by
  unfold sat M
  omega
theorem count_snoc (p : O → Bool) (l : List O) (o : O) : (l ++ [o]).countP p = l.countP p + if p o = true then 1 else 0 := by
  rw [List.countP_append, List.countP_singleton]
theorem count_app (p : O → Bool) (l m : List O) : (l ++ m).countP p = l.countP p + m.countP p := List.countP_append
def sum : List Sn → Int
  | [] => 0
  | y :: l => y.2 + sum l
theorem sum_alt : ∀ (l : List Sn) (k : Int) (g : Int → Int), sum (alt 0 l k g) = sum l - look 0 l k + g (look 0 l k)
  | [], k, g => by simp [alt, sum, look]
  | y :: l, k, g => by
    unfold alt look
    by_cases e : y.1 = k
    · rw [if_pos e, if_pos e]
      show g y.2 + sum l = y.2 + sum l - y.2 + g y.2
      omega
    · rw [if_neg e, if_neg e]
      show y.2 + sum (alt 0 l k g) = y.2 + sum l - _ + _
      rw [sum_alt l k g]
      omega
theorem sum_nonneg : ∀ {l : List Sn}, (∀ y ∈ l, Bd y.2) → 0 ≤ sum l
  | [], _ => Int.le_refl _
  | y :: l, h => by
    have h1 := (h y (by simp)).1
    have h2 := sum_nonneg (l := l) (fun z hz => h z (by simp [hz]))
    show 0 ≤ y.2 + sum l
    omega
theorem look_sum : ∀ {l : List Sn}, (∀ y ∈ l, Bd y.2) → ∀ k, look 0 l k ≤ sum l
  | [], _, k => Int.le_refl _
  | y :: l, h, k => by
    have h1 := (h y (by simp)).1
    have h2 := sum_nonneg (l := l) (fun z hz => h z (by simp [hz]))
    have h3 := look_sum (l := l) (fun z hz => h z (by simp [hz])) k
    unfold look
    show _ ≤ y.2 + sum l
    split <;> omega
theorem more_le {n : Int} (h : Bd n) : more n 1 ≤ n + 1 := by
  unfold Bd more at *
  split <;> omega
theorem more_one {n : Int} (h : n < M) : more n 1 = n + 1 := by
  unfold more
  rw [if_neg (by omega)]
/-- What a call's classes are behind a script. -/
structure CInv (c : List Sn × Bool) (done : List O) (x : Site) : Prop where
  ok : OkC c
  look : c.2 = false → ∀ k, look 0 c.1 k = sat (nK done x k)
  keys : c.2 = false → ∀ k, k ∈ keys c.1 ↔ 0 < nK done x k
  le : sum c.1 ≤ nC done x
  eq : c.2 = false → (nC done x : Int) ≤ M → sum c.1 = nC done x
structure Inv (s : St) (done : List O) : Prop where
  en : ∀ f, s.en f = sat (nE done f)
  ju : ∀ x, s.ju x = sat (nJ done x)
  ca : ∀ x, CInv (s.ca x) done x
theorem inv0 : Inv st0 [] :=
  ⟨fun _ => sat_zero.symm, fun _ => sat_zero.symm, fun _ => ⟨okC0, fun _ _ => sat_zero.symm, fun _ _ => by simp [st0, Pf.keys, nK], Int.le_refl _, fun _ _ => rfl⟩⟩
theorem CInv.other {c : List Sn × Bool} {done : List O} {x : Site} {o : O} (h : CInv c done x) (hc : isC x o = false) : CInv c (done ++ [o]) x := by
  have e1 : nC (done ++ [o]) x = nC done x := by unfold nC; rw [count_snoc, hc]; rfl
  have e2 : ∀ k, nK (done ++ [o]) x k = nK done x k := fun k => by
    unfold nK
    rw [count_snoc, if_neg]
    · rfl
    · unfold isC at hc
      unfold isK
      simp only [decide_eq_false_iff_not, decide_eq_true_eq] at hc ⊢
      exact fun h => hc ⟨h.1, h.2.1, h.2.2.1⟩
  exact ⟨h.ok, fun hf k => by rw [e2]; exact h.look hf k, fun hf k => by rw [e2]; exact h.keys hf k, by rw [e1]; exact h.le, fun hf => by rw [e1]; exact h.eq hf⟩
theorem CInv.cnt {c : List Sn × Bool} {done : List O} {x : Site} {o : O} (h : CInv c done x) (hc : isC x o = true) : CInv (cnt c o.k 1) (done ++ [o]) x := by
  have e1 : nC (done ++ [o]) x = nC done x + 1 := by unfold nC; rw [count_snoc, hc]; rfl
  have hc' : ¬ o.d = 0 ∧ ¬ o.d = 1 ∧ o.x = x := by simpa [isC] using hc
  have e2 : ∀ k, nK (done ++ [o]) x k = nK done x k + if k = o.k then 1 else 0 := fun k => by
    unfold nK
    rw [count_snoc]
    by_cases e : k = o.k
    · rw [if_pos e, if_pos (by simp [isK, hc', e])]
    · rw [if_neg e, if_neg (by simp [isK, hc']; exact fun h => e h.symm)]
  have ok := okC_cnt h.ok (k := o.k) bd1
  unfold Pf.cnt at ok ⊢
  by_cases hk : o.k ∈ Pf.keys c.1 ∨ c.1.length < 4
  · rw [if_pos hk] at ok ⊢
    have hls := look_sum h.ok.bd o.k
    have hle := h.le
    have hb : Bd (Pf.look 0 c.1 o.k) := by
      by_cases hm : o.k ∈ Pf.keys c.1
      · obtain ⟨y, hy, e⟩ := List.mem_map.1 hm
        rw [← e, look_mem h.ok.nd hy]
        exact h.ok.bd y hy
      · rw [look_not hm]
        exact bd0
    refine ⟨ok, fun hf k => ?_, fun hf k => ?_, ?_, fun hf hM => ?_⟩
    · show Pf.look 0 (alt 0 c.1 o.k _) k = _
      rw [look_alt, e2, h.look hf, h.look hf]
      by_cases e : k = o.k
      · rw [if_pos e, if_pos e, e, ← sat_one, sat_more]
      · rw [if_neg e, if_neg e]
        rfl
    · show k ∈ Pf.keys (alt 0 c.1 o.k _) ↔ _
      rw [keys_alt, keys_addk, e2]
      have h1 := h.keys hf k
      by_cases e : k = o.k
      · subst e
        rw [if_pos rfl]
        constructor
        · intro _
          omega
        · intro _
          split
          · assumption
          · simp
      · rw [if_neg e, Nat.add_zero, ← h1]
        split
        · exact Iff.rfl
        · simp [e]
    · show sum (alt 0 c.1 o.k _) ≤ _
      rw [sum_alt, e1]
      have := more_le hb
      show sum c.1 - _ + more _ 1 ≤ _
      omega
    · show sum (alt 0 c.1 o.k _) = _
      rw [sum_alt, e1]
      rw [e1] at hM
      have h2 := h.eq hf (by omega)
      have := more_one (n := Pf.look 0 c.1 o.k) (by omega)
      show sum c.1 - _ + more _ 1 = _
      omega
  · rw [if_neg hk] at ok ⊢
    have hle := h.le
    exact ⟨ok, (fun hf => by cases hf), (fun hf => by cases hf), (by show sum c.1 ≤ _; rw [e1]; omega), (fun hf => by cases hf)⟩
theorem inv_step {s : St} {done : List O} (h : Inv s done) (o : O) : Inv (step1 s o) (done ++ [o]) := by
  have hEn : ∀ f, nE (done ++ [o]) f = nE done f + if isE f o = true then 1 else 0 := fun f => count_snoc _ _ _
  have hJn : ∀ x, nJ (done ++ [o]) x = nJ done x + if isJ x o = true then 1 else 0 := fun x => count_snoc _ _ _
  unfold step1
  by_cases h0 : o.d = 0
  · rw [if_pos h0]
    refine ⟨fun f => ?_, fun x => ?_, fun x => (h.ca x).other (by simp [isC, h0])⟩
    · show (if f = o.f then _ else _) = _
      rw [hEn]
      by_cases e : f = o.f
      · rw [if_pos e, if_pos (by simp [isE, h0, e]), h.en, ← e, ← sat_one, sat_more]
      · rw [if_neg e, if_neg (by simp [isE]; exact fun _ h => e h.symm)]
        exact h.en f
    · rw [hJn, if_neg (by simp [isJ, h0])]
      exact h.ju x
  · rw [if_neg h0]
    by_cases h1 : o.d = 1
    · rw [if_pos h1]
      refine ⟨fun f => ?_, fun x => ?_, fun x => (h.ca x).other (by simp [isC, h1])⟩
      · rw [hEn, if_neg (by simp [isE, h0])]
        exact h.en f
      · show (if x = o.x then _ else _) = _
        rw [hJn]
        by_cases e : x = o.x
        · rw [if_pos e, if_pos (by simp [isJ, h1, e]), h.ju, ← e, ← sat_one, sat_more]
        · rw [if_neg e, if_neg (by simp [isJ]; exact fun _ h => e h.symm)]
          exact h.ju x
    · rw [if_neg h1]
      refine ⟨fun f => ?_, fun x => ?_, fun x => ?_⟩
      · rw [hEn, if_neg (by simp [isE, h0])]
        exact h.en f
      · rw [hJn, if_neg (by simp [isJ, h1])]
        exact h.ju x
      · show CInv (if x = o.x then _ else _) _ _
        by_cases e : x = o.x
        · rw [if_pos e, ← e]
          exact (h.ca x).cnt (by simp [isC, h0, h1, e])
        · rw [if_neg e]
          exact (h.ca x).other (by simp [isC]; exact fun _ _ h => e h.symm)
theorem inv_run : ∀ (l : List O) {s : St} {done : List O}, Inv s done → Inv (l.foldl step1 s) (done ++ l)
  | [], s, done, h => by simpa using h
  | o :: l, s, done, h => by
    have := inv_run l (inv_step h o)
    rw [List.append_assoc] at this
    exact this
theorem run_inv (l : List O) : Inv (run l) l := by
  have := inv_run l inv0
  rwa [List.nil_append] at this
theorem nodup_len : ∀ {a b : List Int}, a.Nodup → (∀ k ∈ a, k ∈ b) → a.length ≤ b.length
  | [], _, _, _ => Nat.zero_le _
  | x :: a, b, h, hs => by
    rw [List.nodup_cons] at h
    have hx := hs x (by simp)
    have := nodup_len (a := a) (b := b.erase x) h.2 (fun k hk => (List.mem_erase_of_ne (fun e : k = x => h.1 (e ▸ hk))).2 (hs k (by simp [hk])))
    rw [List.length_erase_of_mem hx] at this
    have := List.length_pos_of_mem hx
    simp only [List.length_cons]
    omega
/-- One more class of many that are told apart. -/
theorem cnt_small {c : List Sn × Bool} {A : List Int} (h4 : A.length ≤ 4) (hs : ∀ k ∈ keys c.1, k ∈ A) (hn : (keys c.1).Nodup) {k : Int} (hk : k ∈ A) : k ∈ keys c.1 ∨ c.1.length < 4 := by
  by_cases h : k ∈ keys c.1
  · exact .inl h
  · refine .inr ?_
    have h2 : (k :: keys c.1).Nodup := List.nodup_cons.2 ⟨h, hn⟩
    have h3 : (k :: keys c.1).length ≤ A.length := nodup_len h2 (fun y hy => by
      rcases List.mem_cons.1 hy with rfl | hy
      · exact hk
      · exact hs y hy)
    simp only [List.length_cons, Pf.keys, List.length_map] at h3
    omega
theorem fold_small : ∀ {l : List Sn} {c : List Sn × Bool} {A : List Int}, A.length ≤ 4 → (∀ k ∈ keys c.1, k ∈ A) → (∀ k ∈ keys l, k ∈ A) → OkC c → (∀ y ∈ l, Bd y.2) → (keys l).Nodup →
    (fold c l).2 = c.2 ∧ (∀ k, look 0 (fold c l).1 k = more (look 0 c.1 k) (look 0 l k)) ∧ (∀ k, k ∈ keys (fold c l).1 ↔ k ∈ keys c.1 ∨ k ∈ keys l)
  | [], c, A, _, _, _, ok, _, _ => by
    refine ⟨rfl, fun k => ?_, fun k => by simp [fold, keys]⟩
    have hb : Bd (look 0 c.1 k) := by
      by_cases hm : k ∈ keys c.1
      · obtain ⟨y, hy, e⟩ := List.mem_map.1 hm
        rw [← e, look_mem ok.nd hy]
        exact ok.bd y hy
      · rw [look_not hm]
        exact bd0
    exact (more0 hb).symm
  | y :: l, c, A, h4, hc, hl, ok, hb, hn => by
    have hk2 : keys (y :: l) = y.1 :: keys l := rfl
    rw [hk2, List.nodup_cons] at hn
    have hsm := cnt_small h4 hc ok.nd (k := y.1) (hl y.1 (by rw [hk2]; simp))
    have e : cnt c y.1 y.2 = (alt 0 c.1 y.1 (fun z => more z y.2), c.2) := if_pos hsm
    have ok2 := okC_cnt ok (k := y.1) (hb y (by simp))
    have hkc : ∀ k, k ∈ keys (cnt c y.1 y.2).1 ↔ k ∈ keys c.1 ∨ k = y.1 := fun k => by
      rw [e]
      show k ∈ keys (alt 0 c.1 y.1 _) ↔ _
      rw [keys_alt, keys_addk]
      split
      · rename_i h1
        exact ⟨.inl, fun h => h.elim id (fun h => h ▸ h1)⟩
      · simp
    obtain ⟨r1, r2, r3⟩ := fold_small (l := l) (c := cnt c y.1 y.2) h4 (fun k hk => by
      rcases (hkc k).1 hk with h | rfl
      · exact hc k h
      · exact hl _ (by rw [hk2]; simp)) (fun k hk => hl k (by rw [hk2]; simp [hk])) ok2 (fun z hz => hb z (by simp [hz])) hn.2
    refine ⟨r1.trans (by rw [e]), fun k => ?_, fun k => ?_⟩
    · refine (r2 k).trans ?_
      rw [e]
      show more (look 0 (alt 0 c.1 y.1 _) k) _ = _
      rw [look_alt]
      by_cases hk : k = y.1
      · subst hk
        rw [if_pos rfl, look_not hn.1, show look 0 (y :: l) y.1 = y.2 from if_pos rfl]
        refine more0 (more_bd ?_ (hb y (by simp)))
        by_cases hm : y.1 ∈ keys c.1
        · obtain ⟨z, hz, e2⟩ := List.mem_map.1 hm
          rw [← e2, look_mem ok.nd hz]
          exact ok.bd z hz
        · rw [look_not hm]
          exact bd0
      · rw [if_neg hk, show look 0 (y :: l) k = look 0 l k from if_neg (fun h => hk h.symm)]
    · refine (r3 k).trans ?_
      rw [hkc, hk2, List.mem_cons]
      exact or_assoc
theorem mem_look {l : List Sn} (h : (keys l).Nodup) (k n : Int) : (k, n) ∈ l ↔ k ∈ keys l ∧ look 0 l k = n := by
  constructor
  · intro hm
    exact ⟨List.mem_map_of_mem (f := Prod.fst) hm, look_mem h hm⟩
  · rintro ⟨hk, rfl⟩
    obtain ⟨y, hy, rfl⟩ := List.mem_map.1 hk
    rw [look_mem h hy]
    exact hy
/-- Two parts, added, are the whole. -/
theorem parts {one two : List O} (h1 : ∀ x, ((run one).ca x).2 = false) (h2 : ∀ x, ((run two).ca x).2 = false) (h3 : ∀ x, ((run (one ++ two)).ca x).2 = false) : Eqv ((run one).add (run two)) (run (one ++ two)) := by
  have i1 := run_inv one
  have i2 := run_inv two
  have i3 := run_inv (one ++ two)
  refine ⟨fun f => ?_, fun x => ?_, fun x => ?_⟩
  · show more _ _ = _
    rw [i1.en, i2.en, i3.en, sat_more]
    exact congrArg sat (count_app _ _ _).symm
  · show more _ _ = _
    rw [i1.ju, i2.ju, i3.ju, sat_more]
    exact congrArg sat (count_app _ _ _).symm
  · show EqC (merge _ _) _
    have c1 := i1.ca x
    have c2 := i2.ca x
    have c3 := i3.ca x
    have hnk : ∀ k, nK (one ++ two) x k = nK one x k + nK two x k := fun k => count_app _ _ _
    have hsp := srt_perm ((run two).ca x).1
    have hks : ∀ k, k ∈ keys (srt ((run two).ca x).1) ↔ k ∈ keys ((run two).ca x).1 := fun k => (hsp.map (·.1)).mem_iff
    have hn2 : (keys (srt ((run two).ca x).1)).Nodup := ((hsp.map _).nodup_iff).2 c2.ok.nd
    obtain ⟨r1, r2, r3⟩ := fold_small (l := srt ((run two).ca x).1) (c := (run one).ca x) (A := keys ((run (one ++ two)).ca x).1) (by simpa [keys] using c3.ok.ln) (fun k hk => by
      rw [c3.keys (h3 x), hnk]
      have := (c1.keys (h1 x) k).1 hk
      omega) (fun k hk => by
      rw [c3.keys (h3 x), hnk]
      have := (c2.keys (h2 x) k).1 ((hks k).1 hk)
      omega) c1.ok (fun y hy => c2.ok.bd y (hsp.mem_iff.1 hy)) hn2
    have okm := okC_merge c1.ok c2.ok
    refine ⟨perm_of_mem okm.nd c3.ok.nd (fun y => ?_), ?_⟩
    · obtain ⟨k, n⟩ := y
      rw [mem_look okm.nd, mem_look c3.ok.nd]
      show k ∈ keys (fold _ _).1 ∧ look 0 (fold _ _).1 k = n ↔ _
      rw [r2, r3, hks, c1.keys (h1 x), c2.keys (h2 x), c3.keys (h3 x), c1.look (h1 x), look_perm hn2 hsp, c2.look (h2 x), c3.look (h3 x), sat_more, hnk]
      constructor
      · rintro ⟨a, b⟩
        exact ⟨by omega, b⟩
      · rintro ⟨a, b⟩
        exact ⟨by omega, b⟩
    · show (_ || _) = _
      rw [r1, h1, h2, h3]
      rfl
end Go.Proofs.Ytfphiomhlhpphaa.Pf
namespace Go.Proofs.Ytfphiomhlhpphaa
open Go Go.RowKit
open Pf (Site Sn ix addk alt keys O)
set_option maxRecDepth 100000
set_option maxHeartbeats 2000000
/-- An operation's cells. -/
def oL (o : O) : List Value := [.int .i64 o.d, .int .i64 o.f, .int .i64 o.x.1, .int .i64 o.x.2, .int .i64 o.k, .int .i64 o.least]
theorem oL_len (o : O) : (oL o).length = 6 := rfl
structure GoodO (o : O) : Prop where
  d : I8 o.d
  f : I8 o.f
  x : TS.ok o.x
  k : I8 o.k
  least : I8 o.least
theorem oS_at {w : World} {v : Value} {l : List O} (h : Kit.IsS 6 w v l.length (l.flatMap oL)) {k : Nat} {x : O} (hx : l[k]? = some x) : ∃ b o cap, v = .slice (some ⟨b, o, none⟩) l.length cap ∧ b < w.heap.size ∧ w.cell? ⟨b, o + k * 6, none⟩ = some (.int .i64 x.d) ∧ w.cell? ⟨b, o + k * 6 + 1, none⟩ = some (.int .i64 x.f) ∧ w.cell? ⟨b, o + k * 6 + 2, none⟩ = some (.int .i64 x.x.1) ∧ w.cell? ⟨b, o + k * 6 + 3, none⟩ = some (.int .i64 x.x.2) ∧ w.cell? ⟨b, o + k * 6 + 4, none⟩ = some (.int .i64 x.k) ∧ w.cell? ⟨b, o + k * 6 + 5, none⟩ = some (.int .i64 x.least) := by
  have hk := (List.getElem?_eq_some_iff.1 hx).1
  obtain ⟨b, o, cap, hv, -, hb, hc⟩ := h.some (by omega)
  have hat : ∀ j, j < 6 → w.cell? ⟨b, o + k * 6 + j, none⟩ = (oL x)[j]? := fun j hj => by
    have h2 := Kit.flat_at oL_len hx j hj
    cases h3 : (oL x)[j]? with
    | none => rw [List.getElem?_eq_none_iff, oL_len] at h3; omega
    | some u =>
      rw [h3] at h2
      have := hc (k * 6 + j) u h2
      rw [← Nat.add_assoc] at this
      exact this
  exact ⟨b, o, cap, hv, hb, hat 0 (by omega), hat 1 (by omega), hat 2 (by omega), hat 3 (by omega), hat 4 (by omega), hat 5 (by omega)⟩
/-- A profile, and three maps beside it. -/
structure MI (w wr : World) (pb me mj mc : Nat) (p : IV) (n : Nat) (t : Pf.St) (Le : List Sn) (Lj Lc : List (Site × Int)) : Prop where
  pp : PP wr w.heap.size pb p
  ok : OkP p n
  st : p.st = t
  m1 : MapL TI vI wr me Le
  m2 : MapL TS vI wr mj Lj
  m3 : MapL TS vI wr mc Lc
  o1 : ¬ p.foot me
  o2 : ¬ p.foot mj
  o3 : ¬ p.foot mc
  n1 : me ≠ mj
  n2 : me ≠ mc
  n3 : mj ≠ mc
  l1 : w.heap.size ≤ me
  l2 : w.heap.size ≤ mj
  l3 : w.heap.size ≤ mc
  bl : Below w.heap.size w wr
section
variable {w wr w2 : World} {pb me mj mc n : Nat} {p : IV} {t : Pf.St} {Le : List Sn} {Lj Lc : List (Site × Int)}
theorem MI.below (h : MI w wr pb me mj mc p n t Le Lj Lc) (hb : Below wr.heap.size wr w2) : MI w w2 pb me mj mc p n t Le Lj Lc :=
  { h with pp := h.pp.below hb, m1 := h.m1.below hb, m2 := h.m2.below hb, m3 := h.m3.below hb, bl := belows h.bl hb h.bl.size }
theorem PP.grown {base : Nat} (h : PP wr base pb p) {m : Nat} (hg : wr.grownBy w2 (some m)) (hm : ¬ p.foot m) (h0 : m ≠ pb) : PP w2 base pb p := h.chg (grown_chg hg) (fun e => h0 e.symm) (fun k hk e => hm (e ▸ hk))
theorem MI.setE (h : MI w wr pb me mj mc p n t Le Lj Lc) (hg : wr.grownBy w2 (some me)) {L : List Sn} (hm : MapL TI vI w2 me L) : MI w w2 pb me mj mc p n t L Lj Lc :=
  { h with pp := h.pp.grown hg h.o1 (map_ne h.m1 h.pp.box), m1 := hm, m2 := h.m2.chg (grown_chg hg) (fun e => h.n1 e.symm), m3 := h.m3.chg (grown_chg hg) (fun e => h.n2 e.symm), bl := h.bl.grown hg h.bl.size (fun k e => by have := h.l1; have := Option.some.inj e; omega) }
theorem MI.setJ (h : MI w wr pb me mj mc p n t Le Lj Lc) (hg : wr.grownBy w2 (some mj)) {L : List (Site × Int)} (hm : MapL TS vI w2 mj L) : MI w w2 pb me mj mc p n t Le L Lc :=
  { h with pp := h.pp.grown hg h.o2 (map_ne h.m2 h.pp.box), m1 := h.m1.chg (grown_chg hg) h.n1, m2 := hm, m3 := h.m3.chg (grown_chg hg) (fun e => h.n3 e.symm), bl := h.bl.grown hg h.bl.size (fun k e => by have := h.l2; have := Option.some.inj e; omega) }
theorem MI.setC (h : MI w wr pb me mj mc p n t Le Lj Lc) (hg : wr.grownBy w2 (some mc)) {L : List (Site × Int)} (hm : MapL TS vI w2 mc L) : MI w w2 pb me mj mc p n t Le Lj L :=
  { h with pp := h.pp.grown hg h.o3 (map_ne h.m3 h.pp.box), m1 := h.m1.chg (grown_chg hg) h.n2, m2 := h.m2.chg (grown_chg hg) h.n3, m3 := hm, bl := h.bl.grown hg h.bl.size (fun k e => by have := h.l3; have := Option.some.inj e; omega) }
theorem MI.step (h : MI w wr pb me mj mc p n t Le Lj Lc) {m : Nat} {t' : Pf.St} (hs : Step wr w2 w.heap.size pb p m t') : ∃ p', MI w w2 pb me mj mc p' m t' Le Lj Lc := by
  obtain ⟨p', h1, h2, h3, h4, h5⟩ := hs
  have off : ∀ k, ¬ p.foot k → k < wr.heap.size → ¬ p'.foot k := fun k hk hl e => (h5 k e).elim hk (fun e => by omega)
  exact ⟨p', { h with pp := h1, ok := h2, st := h3, m1 := h.m1.chg h4 h.o1, m2 := h.m2.chg h4 h.o2, m3 := h.m3.chg h4 h.o3, o1 := off _ h.o1 h.m1.lt, o2 := off _ h.o2 h.m2.lt, o3 := off _ h.o3 h.m3.lt, bl := h.bl.trans (h4.to_below (fun k hk => h.pp.has.low k hk) h.bl.size) }⟩
end
/-- What the law's own maps have counted. -/
structure CR (Le : List Sn) (Lj Lc : List (Site × Int)) (l : List O) : Prop where
  e : ∀ f, Pf.look 0 Le f = (Pf.nE l f : Int)
  j : ∀ x, Pf.look 0 Lj x = (Pf.nJ l x : Int)
  c : ∀ x, Pf.look 0 Lc x = (Pf.nC l x : Int)
  le : Le.length ≤ l.length
  lj : Lj.length ≤ l.length
  lc : Lc.length ≤ l.length
section
variable {Le : List Sn} {Lj Lc : List (Site × Int)} {l : List O} {o : O}
theorem CR.enter (h : CR Le Lj Lc l) (h0 : o.d = 0) : CR (alt 0 Le o.f (fun _ => Pf.look 0 Le o.f + 1)) Lj Lc (l ++ [o]) := by
  have hn : (l ++ [o]).length = l.length + 1 := by simp
  refine ⟨fun f => ?_, fun x => ?_, fun x => ?_, ?_, by have := h.lj; omega, by have := h.lc; omega⟩
  · rw [Pf.look_alt]
    unfold Pf.nE
    rw [Pf.count_snoc]
    by_cases e : f = o.f
    · rw [if_pos e, if_pos (by simp [Pf.isE, h0, e]), h.e, e]
      rfl
    · rw [if_neg e, if_neg (by simp [Pf.isE]; exact fun _ h => e h.symm), h.e]
      rfl
  · unfold Pf.nJ
    rw [Pf.count_snoc, if_neg (by simp [Pf.isJ, h0]), h.j]
    rfl
  · unfold Pf.nC
    rw [Pf.count_snoc, if_neg (by simp [Pf.isC, h0]), h.c]
    rfl
  · have := (Pf.alt_le (d := (0 : Int)) Le o.f (fun _ => Pf.look 0 Le o.f + 1)).2
    have := h.le
    omega
theorem CR.back (h : CR Le Lj Lc l) (h0 : ¬ o.d = 0) (h1 : o.d = 1) : CR Le (alt 0 Lj o.x (fun _ => Pf.look 0 Lj o.x + 1)) Lc (l ++ [o]) := by
  have hn : (l ++ [o]).length = l.length + 1 := by simp
  refine ⟨fun f => ?_, fun x => ?_, fun x => ?_, by have := h.le; omega, ?_, by have := h.lc; omega⟩
  · unfold Pf.nE
    rw [Pf.count_snoc, if_neg (by simp [Pf.isE, h0]), h.e]
    rfl
  · rw [Pf.look_alt]
    unfold Pf.nJ
    rw [Pf.count_snoc]
    by_cases e : x = o.x
    · rw [if_pos e, if_pos (by simp [Pf.isJ, h1, e]), h.j, e]
      rfl
    · rw [if_neg e, if_neg (by simp [Pf.isJ]; exact fun _ h => e h.symm), h.j]
      rfl
  · unfold Pf.nC
    rw [Pf.count_snoc, if_neg (by simp [Pf.isC, h1]), h.c]
    rfl
  · have := (Pf.alt_le (d := (0 : Int)) Lj o.x (fun _ => Pf.look 0 Lj o.x + 1)).2
    have := h.lj
    omega
theorem CR.call (h : CR Le Lj Lc l) (h0 : ¬ o.d = 0) (h1 : ¬ o.d = 1) : CR Le Lj (alt 0 Lc o.x (fun _ => Pf.look 0 Lc o.x + 1)) (l ++ [o]) := by
  have hn : (l ++ [o]).length = l.length + 1 := by simp
  refine ⟨fun f => ?_, fun x => ?_, fun x => ?_, by have := h.le; omega, by have := h.lj; omega, ?_⟩
  · unfold Pf.nE
    rw [Pf.count_snoc, if_neg (by simp [Pf.isE, h0]), h.e]
    rfl
  · unfold Pf.nJ
    rw [Pf.count_snoc, if_neg (by simp [Pf.isJ, h1]), h.j]
    rfl
  · rw [Pf.look_alt]
    unfold Pf.nC
    rw [Pf.count_snoc]
    by_cases e : x = o.x
    · rw [if_pos e, if_pos (by simp [Pf.isC, h0, h1, e]), h.c, e]
      rfl
    · rw [if_neg e, if_neg (by simp [Pf.isC]; exact fun _ _ h => e h.symm), h.c]
      rfl
  · have := (Pf.alt_le (d := (0 : Int)) Lc o.x (fun _ => Pf.look 0 Lc o.x + 1)).2
    have := h.lc
    omega
end
theorem run_snoc (l : List O) (o : O) : Pf.run (l ++ [o]) = Pf.step1 (Pf.run l) o := by unfold Pf.run; rw [List.foldl_append]; rfl
theorem take_snoc {α : Type} {l : List α} {k : Nat} {x : α} (h : l[k]? = some x) : l.take (k + 1) = l.take k ++ [x] := by rw [List.take_add_one, h]; rfl
end Go.Proofs.Ytfphiomhlhpphaa
namespace Go.Proofs.Ytfphiomhlhpphaa
open Go Go.RowKit
open Pf (Site Sn ix addk alt keys O)
set_option maxRecDepth 100000
set_option maxHeartbeats 2000000
/-- Whether a step leaves its site's classes told apart. -/
def fineO (t : Pf.St) (o : O) : Bool := if o.d = 0 then true else if o.d = 1 then true else Pf.kind (Pf.cnt (t.ca o.x) o.k 1) != 3
def Fine (t : Pf.St) : Prop := ∀ x, (t.ca x).2 = false
theorem Fine.step {t : Pf.St} (h : Fine t) {o : O} (hf : fineO t o = true) : Fine (Pf.step1 t o) := by
  intro x
  unfold Pf.step1
  unfold fineO at hf
  by_cases h0 : o.d = 0
  · rw [if_pos h0]
    exact h x
  · rw [if_neg h0] at hf ⊢
    by_cases h1 : o.d = 1
    · rw [if_pos h1]
      exact h x
    · rw [if_neg h1] at hf ⊢
      show (if x = o.x then Pf.cnt (t.ca o.x) o.k 1 else t.ca x).2 = false
      by_cases e : x = o.x
      · rw [if_pos e]
        cases hc : (Pf.cnt (t.ca o.x) o.k 1).2
        · rfl
        · have : Pf.kind (Pf.cnt (t.ca o.x) o.k 1) = 3 := by unfold Pf.kind; rw [if_pos hc]
          rw [this] at hf
          cases hf
      · rw [if_neg e]
        exact h x
section
variable {w : World} {base pb n : Nat} {p : IV}
theorem each_any (h : PP w base pb p) (hw : base ≤ w.heap.size) (ok : OkP p n) (hn : n < 9000000000000) {o : O} (hg : GoodO o) : Calls Try.prog 19 #[.pointer (some ⟨pb, 0, none⟩), .agg (oL o).toArray] w fun e w' =>
    e = .returned (.bool (fineO p.st o)) ∧ Step w w' base pb p (n + 1) (Pf.step1 p.st o) := by
  obtain ⟨d, f, ⟨x1, x2⟩, q, ls⟩ := o
  unfold oL
  dsimp only
  obtain ⟨w1, hw1⟩ : ∃ w1, w1 = w.alloc (.cells #[.int .i64 d, .int .i64 f, .int .i64 x1, .int .i64 x2, .int .i64 q, .int .i64 ls] 31) := ⟨_, rfl⟩
  have hb1 : Below w.heap.size w w1 := by rw [hw1]; exact (Below.refl _ _).alloc (Nat.le_refl _) _
  have bx : BX w1 w.heap.size #[.int .i64 d, .int .i64 f, .int .i64 x1, .int .i64 x2, .int .i64 q, .int .i64 ls] 31 := by rw [hw1]; exact BX.new w _ _
  have h1 := h.below hb1
  have HE := hid (enterS h1 ok hn hg.f)
  have HB := hid (backS h1 ok hn hg.x)
  have HC := hid (callS h1 (Nat.le_trans hw hb1.size) ok hn hg.x hg.k)
  have HStep : Hid (∀ w2 t, Step w1 w2 base pb p (n + 1) t → Step w w2 base pb p (n + 1) t) := fun w2 t ⟨p', a1, a2, a3, a4, a5⟩ => ⟨p', a1, a2, a3, (Chg.of_below hb1).trans a4 (fun i e => .inl e), fun i hi => (a5 i hi).imp id (fun e => Nat.le_trans hb1.size e)⟩
  obtain ⟨y0, y1, y2, y3, y4, y5⟩ := (show w1.cell? ⟨w.heap.size, 0, none⟩ = some (.int .i64 d) ∧ w1.cell? ⟨w.heap.size, 1, none⟩ = some (.int .i64 f) ∧ w1.cell? ⟨w.heap.size, 2, none⟩ = some (.int .i64 x1) ∧ w1.cell? ⟨w.heap.size, 3, none⟩ = some (.int .i64 x2) ∧ w1.cell? ⟨w.heap.size, 4, none⟩ = some (.int .i64 q) ∧ w1.cell? ⟨w.heap.size, 5, none⟩ = some (.int .i64 ls) from ⟨bx.cell 0, bx.cell 1, bx.cell 2, bx.cell 3, bx.cell 4, bx.cell 5⟩)
  have HW1 := hid hw1
  unfold sV at HB HC
  dsimp only at HE HB HC
  clear h hw ok hn hg bx h1 hb1 hw1
  by_cases h0 : d = 0
  · have hf : fineO p.st ⟨d, f, (x1, x2), q, ls⟩ = true := if_pos h0
    have hs : Pf.step1 p.st ⟨d, f, (x1, x2), q, ls⟩ = p.st.enter f := if_pos h0
    rw [hf, hs]
    subst h0
    clear hf hs
    go_enter Try.func19, Try.ntmps19
    go_upto_region 1 with fail
    rw [← HW1.out]
    go_wp2_with (go_at_call 12; refine HE.out.mono ?_; rintro e w2 ⟨rfl, hst⟩; have HS := hid hst; clear hst)
    go_ret
    exact ⟨rfl, HStep.out _ _ HS.out⟩
  · by_cases h1 : d = 1
    · have hf : fineO p.st ⟨d, f, (x1, x2), q, ls⟩ = true := (if_neg h0).trans (if_pos h1)
      have hs : Pf.step1 p.st ⟨d, f, (x1, x2), q, ls⟩ = p.st.back (x1, x2) := (if_neg h0).trans (if_pos h1)
      rw [hf, hs]
      subst h1
      clear hf hs h0
      go_enter Try.func19, Try.ntmps19
      go_upto_region 1 with fail
      rw [← HW1.out]
      go_wp2_with (go_at_call 13; refine HB.out.mono ?_; rintro e w2 ⟨rfl, hst⟩; have HS := hid hst; clear hst)
      go_ret
      exact ⟨rfl, HStep.out _ _ HS.out⟩
    · have hf : fineO p.st ⟨d, f, (x1, x2), q, ls⟩ = (Pf.kind (Pf.cnt (p.st.ca (x1, x2)) q 1) != 3) := (if_neg h0).trans (if_neg h1)
      have hs : Pf.step1 p.st ⟨d, f, (x1, x2), q, ls⟩ = p.st.call (x1, x2) q 1 := (if_neg h0).trans (if_neg h1)
      rw [hf, hs]
      have h0' : (d == 0) = false := by simpa using h0
      have h1' : (d == 1) = false := by simpa using h1
      clear hf hs h0 h1
      go_enter Try.func19, Try.ntmps19
      go_upto_region 1 with fail
      rw [← HW1.out]
      go_wp2_with (go_at_call 14; refine HC.out.mono ?_; rintro e w2 ⟨rfl, hst⟩; have HS := hid hst; clear hst)
      go_ret
      exact ⟨rfl, HStep.out _ _ HS.out⟩
end
/-- A profile among others: its place, what it has, how many steps it has gone, what it has counted. -/
structure P3 where
  b : Nat
  v : IV
  n : Nat
  t : Pf.St
structure Held (w : World) (base : Nat) (x : P3) : Prop where
  pp : PP w base x.b x.v
  ok : OkP x.v x.n
  st : x.v.st = x.t
structure Apart (x y : P3) : Prop where
  ff : ∀ i, x.v.foot i → ¬ y.v.foot i
  fb : ¬ x.v.foot y.b
  bf : ¬ y.v.foot x.b
structure Three (w0 w : World) (x y z : P3) : Prop where
  hx : Held w w0.heap.size x
  hy : Held w w0.heap.size y
  hz : Held w w0.heap.size z
  xy : Apart x y
  xz : Apart x z
  yz : Apart y z
  bl : Below w0.heap.size w0 w
section
variable {w0 w w' : World} {x y z : P3}
theorem Apart.symm (h : Apart x y) : Apart y x := ⟨fun i h1 h2 => h.ff i h2 h1, h.bf, h.fb⟩
theorem Held.below {base : Nat} (h : Held w base x) (hb : Below w.heap.size w w') : Held w' base x := ⟨h.pp.below hb, h.ok, h.st⟩
theorem Three.below (h : Three w0 w x y z) (hb : Below w.heap.size w w') : Three w0 w' x y z := ⟨h.hx.below hb, h.hy.below hb, h.hz.below hb, h.xy, h.xz, h.yz, belows h.bl hb h.bl.size⟩
theorem Three.rot (h : Three w0 w x y z) : Three w0 w y z x := ⟨h.hy, h.hz, h.hx, h.yz, h.xy.symm, h.xz.symm, h.bl⟩
theorem Three.flip (h : Three w0 w x y z) : Three w0 w y x z := ⟨h.hy, h.hx, h.hz, h.xy.symm, h.yz, h.xz, h.bl⟩
theorem Held.other (h : Held w w0.heap.size y) (hc : Chg x.v.foot w w') (ha : Apart x y) : Held w' w0.heap.size y := ⟨h.pp.chg hc ha.fb (fun k hk e => ha.ff k e hk), h.ok, h.st⟩
theorem Apart.step (ha : Apart x y) (hy : Held w w0.heap.size y) {v' : IV} {m : Nat} {t : Pf.St} (hf : ∀ i, v'.foot i → x.v.foot i ∨ w.heap.size ≤ i) : Apart ⟨x.b, v', m, t⟩ y :=
  ⟨fun i h1 h2 => (hf i h1).elim (fun e => ha.ff i e h2) (fun e => by have := hy.pp.has.lt i h2; omega), fun h1 => (hf _ h1).elim ha.fb (fun e => by have := hy.pp.box.sz; omega), ha.bf⟩
theorem Three.step (h : Three w0 w x y z) {m : Nat} {t : Pf.St} (hs : Step w w' w0.heap.size x.b x.v m t) : ∃ v', Three w0 w' ⟨x.b, v', m, t⟩ y z ∧ Chg x.v.foot w w' := by
  obtain ⟨v', a1, a2, a3, a4, a5⟩ := hs
  exact ⟨v', ⟨⟨a1, a2, a3⟩, h.hy.other a4 h.xy, h.hz.other a4 h.xz, h.xy.step h.hy a5, h.xz.step h.hz a5, h.yz, h.bl.trans (a4.to_below (B := w0.heap.size) (fun k e => h.hx.pp.has.low k e) h.bl.size)⟩, a4⟩
theorem Three.each (h : Three w0 w x y z) (hn : x.n < 9000000000000) {o : O} (hg : GoodO o) : Calls Try.prog 19 #[.pointer (some ⟨x.b, 0, none⟩), .agg (oL o).toArray] w fun e w' =>
    e = .returned (.bool (fineO x.t o)) ∧ ∃ v', Three w0 w' ⟨x.b, v', x.n + 1, Pf.step1 x.t o⟩ y z ∧ Chg x.v.foot w w' := by
  refine (each_any h.hx.pp h.bl.size h.hx.ok hn hg).mono ?_
  rw [h.hx.st]
  rintro e w' ⟨rfl, hs⟩
  exact ⟨rfl, h.step hs⟩
theorem Three.add (h : Three w0 w x y z) (hn : x.n + y.n < 9000000000000) : Calls Try.prog 20 #[.pointer (some ⟨x.b, 0, none⟩), .pointer (some ⟨y.b, 0, none⟩)] w fun e w' =>
    e = .returned (.int .i64 0) ∧ ∃ v', Three w0 w' ⟨x.b, v', x.n + y.n, x.t.add y.t⟩ y z := by
  refine (add_any h.hx.pp h.bl.size h.hy.pp h.hx.ok h.hy.ok h.xy.ff hn).mono ?_
  rw [h.hx.st, h.hy.st]
  rintro e w' ⟨rfl, hs⟩
  obtain ⟨v', h1, -⟩ := h.step hs
  exact ⟨rfl, v', h1⟩
theorem Three.same (h : Three w0 w x y z) (he : Pf.Eqv x.t z.t) : Calls Try.prog 21 #[.pointer (some ⟨x.b, 0, none⟩), .pointer (some ⟨z.b, 0, none⟩)] w (EqPost w) :=
  same_any h.hx.pp h.hz.pp h.hx.ok h.hz.ok (by rw [h.hx.st, h.hz.st]; exact he)
theorem PP.lower {base base' pb : Nat} {p : IV} (h : PP w base pb p) (hb : base' ≤ base) : PP w base' pb p := ⟨h.box, { h.has with low := fun k hk => Nat.le_trans hb (h.has.low k hk) }, Nat.le_trans hb h.low⟩
theorem Apart.new {base : Nat} (hx : Held w base x) {b2 : Nat} (hy : PP w' b2 y.b y.v) (hb : w.heap.size ≤ b2) : Apart x y :=
  ⟨fun i h1 h2 => by have := hx.pp.has.lt i h1; have := hy.has.low i h2; omega, fun h1 => by have := hx.pp.has.lt _ h1; have := hy.low; omega, fun h1 => by have := hx.pp.box.sz; have := hy.has.low _ h1; omega⟩
end
end Go.Proofs.Ytfphiomhlhpphaa
namespace Go.Proofs.Ytfphiomhlhpphaa
open Go Go.RowKit
open Pf (Site Sn ix addk alt keys O)
set_option maxRecDepth 100000
set_option maxHeartbeats 4000000
theorem box6p {W : World} {b : Nat} {a0 a1 a2 a3 a4 a5 : Value} {T : TypeId} (h : BX W b #[a0, a1, a2, a3, a4, a5] T) : W.cell? ⟨b, 0, none⟩ = some a0 ∧ W.cell? ⟨b, 1, none⟩ = some a1 ∧ W.cell? ⟨b, 2, none⟩ = some a2 ∧ W.cell? ⟨b, 3, none⟩ = some a3 ∧ W.cell? ⟨b, 4, none⟩ = some a4 ∧ W.cell? ⟨b, 5, none⟩ = some a5 := ⟨h.cell 0, h.cell 1, h.cell 2, h.cell 3, h.cell 4, h.cell 5⟩
theorem fine0 : Fine Pf.st0 := fun _ => rfl
theorem parts_law (l l2 : List O) (v v2 : Value) (w : World) (hv : Kit.IsS 6 w v l.length (l.flatMap oL)) (hv2 : Kit.IsS 6 w v2 l2.length (l2.flatMap oL)) (hg : ∀ o ∈ l, GoodO o) (hg2 : ∀ o ∈ l2, GoodO o) (hl : l.length * 48 ≤ 140737488351232) (hl2 : l2.length * 48 ≤ 140737488351232) :
    Calls Try.prog 5 #[v, v2] w fun e w' => e = .returned (.bool true) ∧ Below w.heap.size w w' := by
  obtain ⟨va, vc, rfl⟩ := hv.len
  obtain ⟨va2, vc2, rfl⟩ := hv2.len
  have HN := hid (fun W => newS W)
  have HBg := hid (fun W => begun_any W)
  have HV := hid (fun W (hb : Below w.heap.size w W) => hv.below hb (Nat.le_refl _))
  have HV2 := hid (fun W (hb : Below w.heap.size w W) => hv2.below hb (Nat.le_refl _))
  have HG := hid hg
  have HG2 := hid hg2
  have HL : Hid (l.length ≤ 2932031007403) := by show _ ≤ _; omega
  have HL2 : Hid (l2.length ≤ 2932031007403) := by show _ ≤ _; omega
  obtain ⟨ln, hln⟩ : ∃ n, l.length = n := ⟨_, rfl⟩
  obtain ⟨ln2, hln2⟩ : ∃ n, l2.length = n := ⟨_, rfl⟩
  rw [hln] at HV HL ⊢
  rw [hln2] at HV2 HL2 ⊢
  have HLn := hid hln
  have HLn2 := hid hln2
  clear hv hv2 hg hg2 hl hl2 hln hln2
  go_enter Try.func5, Try.ntmps5
  go_upto_region 6 with (first
    | (have _t := HP2; clear _t; go_at_call 7; refine (HN.out _).mono ?_; rintro e w3 ⟨pb3, p3, rfl, h1, h2, h3, h4⟩; have HP3 := hid (And.intro h1 (And.intro h2 (And.intro h3 h4))); clear h1 h2 h3 h4)
    | (have _t := HP1; clear _t; go_at_call 7; refine (HN.out _).mono ?_; rintro e w2 ⟨pb2, p2, rfl, h1, h2, h3, h4⟩; have HP2 := hid (And.intro h1 (And.intro h2 (And.intro h3 h4))); clear h1 h2 h3 h4)
    | (go_at_call 7; refine (HN.out _).mono ?_; rintro e w1 ⟨pb1, p1, rfl, h1, h2, h3, h4⟩; have HP1 := hid (And.intro h1 (And.intro h2 (And.intro h3 h4))); clear h1 h2 h3 h4)
    | (go_at_call 9; refine (HBg.out _).mono ?_; rintro e w9 ⟨rfl, hb⟩; have HB9 := hid hb; clear hb))
  have HT0 : Hid (Three w w9 ⟨pb1, p1, 0, Pf.st0⟩ ⟨pb3, p3, 0, Pf.st0⟩ ⟨pb2, p2, 0, Pf.st0⟩) := by
    obtain ⟨a1, a2, a3, a4⟩ := HP1.out
    obtain ⟨b1, b2, b3, b4⟩ := HP2.out
    obtain ⟨c1, c2, c3, c4⟩ := HP3.out
    have hz := HB9.out.size
    have z1 := a4.size
    have z2 := b4.size
    have z3 := c4.size
    have h12 : Apart ⟨pb1, p1, 0, Pf.st0⟩ ⟨pb2, p2, 0, Pf.st0⟩ := Apart.new (w := w1) (w' := w2) ⟨a1, a2, a3⟩ b1 (Nat.le_refl _)
    have h13 : Apart ⟨pb1, p1, 0, Pf.st0⟩ ⟨pb3, p3, 0, Pf.st0⟩ := Apart.new (w := w1) (w' := w3) ⟨a1, a2, a3⟩ c1 z2
    have h23 : Apart ⟨pb2, p2, 0, Pf.st0⟩ ⟨pb3, p3, 0, Pf.st0⟩ := Apart.new (w := w2) (w' := w3) ⟨b1, b2, b3⟩ c1 (Nat.le_refl _)
    have e1 : Below w1.heap.size w1 w9 := belows (belows b4 c4 z2) HB9.out (by omega)
    have e2 : Below w2.heap.size w2 w9 := belows c4 HB9.out z3
    exact ⟨⟨a1.below e1, a2, a3⟩, ⟨(c1.below HB9.out).lower (by omega), c2, c3⟩, ⟨(b1.below e2).lower z1, b2, b3⟩, h13, h12, h23.symm, belows a4 e1 z1⟩
  clear HP1 HP2 HP3 HB9
  go_wp2
  go_loopw [9, 33] (fun fl a wr => ∃ (k : Nat) (c : Bool), fl = .bool c ∧ a = .int .i64 (k : Int) ∧ k ≤ ln ∧ Hid (∃ v1 v3, Three w wr ⟨pb1, v1, k, Pf.run (l.take k)⟩ ⟨pb3, v3, k, Pf.run (l.take k)⟩ ⟨pb2, p2, 0, Pf.st0⟩) ∧ Hid (c = true → Fine (Pf.run (l.take k)))) (fun _ a _ => ln - (intOf a).toNat)
  case atStart => exact ⟨0, true, rfl, rfl, Nat.zero_le _, hid ⟨p1, p3, HT0.out⟩, hid (fun _ => fine0)⟩
  case round =>
    clear HT0
    obtain ⟨k, c, rfl, rfl, hk, HI, HF⟩ := hrel
    obtain ⟨v1, v3, hT3⟩ := HI.out
    have HT3 := hid hT3
    clear HI
    by_cases hlt : k < ln
    · obtain ⟨x, hx⟩ : ∃ x, l[k]? = some x := ⟨_, List.getElem?_eq_getElem (by rw [HLn.out]; exact hlt)⟩
      obtain ⟨b, o, cap, hvv, hbl, c0, c1, c2, c3, c4, c5⟩ := oS_at (by have := HV.out _ hT3.bl; rw [← HLn.out] at this; exact this) hx
      rw [HLn.out] at hvv
      obtain ⟨rfl, -, rfl⟩ := Value.slice.inj hvv
      have HGx := hid (HG.out x (List.mem_of_getElem? hx))
      have HT := hid (take_snoc hx)
      obtain ⟨d, f, ⟨x1, x2⟩, q, ls⟩ := x
      dsimp only at c0 c1 c2 c3 c4 c5
      have hlt' : decide ((k : Int) < (ln : Int)) = true := decide_eq_true (by omega)
      have hk9 : k < 2932031007403 := by have := HL.out; have := HL2.out; omega
      clear hx hvv hT3
      obtain ⟨f1, hf1⟩ : ∃ c, fineO (Pf.run (l.take k)) ⟨d, f, (x1, x2), q, ls⟩ = c := ⟨_, rfl⟩
      obtain ⟨f2, hf2⟩ : ∃ c, fineO (Pf.run (l.take k)) ⟨d, f, (x1, x2), q, ls⟩ = c := ⟨_, rfl⟩
      have HC1 := hid hf1
      have HC2 := hid hf2
      clear hf1 hf2
      go_upto_region 9 with fail
      refine region_named fun Wb hWb => ?_
      have hbx : BX Wb wr.heap.size #[.int .i64 d, .int .i64 f, .int .i64 x1, .int .i64 x2, .int .i64 q, .int .i64 ls] 31 := by rw [hWb]; exact BX.new wr _ _
      have HBx := hid hbx
      have HB9 : Hid (Below wr.heap.size wr Wb) := by show Below _ _ _; rw [hWb]; exact (Below.refl _ _).alloc (Nat.le_refl _) _
      have HTb := hid (HT3.out.below HB9.out)
      obtain ⟨y0, y1, y2, y3, y4, y5⟩ := box6p hbx
      clear c0 c1 c2 c3 c4 c5 hWb hbx
      have HE1 := hid (HTb.out.each (by show k < _; have := HL.out; have := HL2.out; omega) HGx.out)
      have HE2 := hid (fun W u (h : Three w W ⟨pb1, u, k + 1, Pf.step1 (Pf.run (l.take k)) ⟨d, f, (x1, x2), q, ls⟩⟩ ⟨pb3, v3, k, Pf.run (l.take k)⟩ ⟨pb2, p2, 0, Pf.st0⟩) => h.flip.each (by show k < _; have := HL.out; have := HL2.out; omega) HGx.out)
      dsimp only at HE1 HE2
      rw [HC1.out] at HE1
      rw [HC2.out] at HE2
      unfold oL at HE1 HE2
      dsimp only at HE1 HE2
      have HK := hid (fun (W : World) (hc : Chg v1.foot Wb W) => box6p (HBx.out.chg hc (fun e => by have := HT3.out.hx.pp.has.lt _ e; omega)))
      clear HB9 HTb
      cases f1 <;> cases f2
      all_goals
        go_wp2_with (first
          | (have _t := HU1; clear _t; go_at_call 19; refine (HE2.out _ _ HU1.out).mono ?_; rintro e W5 ⟨rfl, u3, hu, -⟩; have HU := hid hu.flip; clear hu)
          | (go_at_call 19; refine HE1.out.mono ?_; rintro e W4 ⟨rfl, u1, hu, hc4⟩; have HU1 := hid hu; clear y0 y1 y2 y3 y4 y5; obtain ⟨y0, y1, y2, y3, y4, y5⟩ := HK.out _ hc4; clear hu hc4))
        go_roundw
        case rel => first | exact ⟨k + 1, c, rfl, by go_num, by omega, hid ⟨u1, u3, by rw [HT.out, run_snoc]; exact HU.out⟩, hid (by intro e; rw [HT.out, run_snoc]; exact (HF.out e).step HC1.out)⟩ | exact ⟨k + 1, false, rfl, by go_num, by omega, hid ⟨u1, u3, by rw [HT.out, run_snoc]; exact HU.out⟩, hid (by intro e; cases e)⟩
        case measure => simp [intOf]; omega
    · obtain rfl : ln = k := by omega
      have hfull : l.take ln = l := by rw [← HLn.out, List.take_length]
      have hF := HF.out
      rw [hfull] at hT3 hF
      have HT1 := hid hT3
      have HF1 := hid hF
      clear HT3 HF hT3 hF hlt hk hfull
      go_wp2
      go_loopw [9, 54] (fun fl a wr => ∃ (k : Nat) (c : Bool), fl = .bool c ∧ a = .int .i64 (k : Int) ∧ k ≤ ln2 ∧ Hid (∃ v2 v3, Three w wr ⟨pb2, v2, k, Pf.run (l2.take k)⟩ ⟨pb3, v3, ln + k, Pf.run (l ++ l2.take k)⟩ ⟨pb1, v1, ln, Pf.run l⟩) ∧ Hid (c = true → Fine (Pf.run l) ∧ Fine (Pf.run (l2.take k)) ∧ Fine (Pf.run (l ++ l2.take k)))) (fun _ a _ => ln2 - (intOf a).toNat)
      case atStart => exact ⟨0, c, rfl, rfl, Nat.zero_le _, hid ⟨p2, v3, by rw [List.take_zero, List.append_nil]; exact HT1.out.rot.flip⟩, hid (fun e => ⟨HF1.out e, fine0, by rw [List.take_zero, List.append_nil]; exact HF1.out e⟩)⟩
      case round =>
        clear HT1 HF1
        obtain ⟨k, c, rfl, rfl, hk, HI, HF⟩ := hrel
        obtain ⟨v2, v3, hT3⟩ := HI.out
        have HT3 := hid hT3
        clear HI
        by_cases hlt : k < ln2
        · obtain ⟨x, hx⟩ : ∃ x, l2[k]? = some x := ⟨_, List.getElem?_eq_getElem (by rw [HLn2.out]; exact hlt)⟩
          obtain ⟨b, o, cap, hvv, hbl, c0, c1, c2, c3, c4, c5⟩ := oS_at (by have := HV2.out _ hT3.bl; rw [← HLn2.out] at this; exact this) hx
          rw [HLn2.out] at hvv
          obtain ⟨rfl, -, rfl⟩ := Value.slice.inj hvv
          have HGx := hid (HG2.out x (List.mem_of_getElem? hx))
          have HT := hid (take_snoc hx)
          obtain ⟨d, f, ⟨x1, x2⟩, q, ls⟩ := x
          dsimp only at c0 c1 c2 c3 c4 c5
          have hlt' : decide ((k : Int) < (ln2 : Int)) = true := decide_eq_true (by omega)
          have hk9 : k < 2932031007403 := by have := HL.out; have := HL2.out; omega
          clear hx hvv hT3
          obtain ⟨f1, hf1⟩ : ∃ c, fineO (Pf.run (l2.take k)) ⟨d, f, (x1, x2), q, ls⟩ = c := ⟨_, rfl⟩
          obtain ⟨f2, hf2⟩ : ∃ c, fineO (Pf.run (l ++ l2.take k)) ⟨d, f, (x1, x2), q, ls⟩ = c := ⟨_, rfl⟩
          have HC1 := hid hf1
          have HC2 := hid hf2
          clear hf1 hf2
          go_upto_region 15 with fail
          refine region_named fun Wb hWb => ?_
          have hbx : BX Wb wr.heap.size #[.int .i64 d, .int .i64 f, .int .i64 x1, .int .i64 x2, .int .i64 q, .int .i64 ls] 31 := by rw [hWb]; exact BX.new wr _ _
          have HBx := hid hbx
          have HB9 : Hid (Below wr.heap.size wr Wb) := by show Below _ _ _; rw [hWb]; exact (Below.refl _ _).alloc (Nat.le_refl _) _
          have HTb := hid (HT3.out.below HB9.out)
          obtain ⟨y0, y1, y2, y3, y4, y5⟩ := box6p hbx
          clear c0 c1 c2 c3 c4 c5 hWb hbx
          have HE1 := hid (HTb.out.each (by show k < _; have := HL.out; have := HL2.out; omega) HGx.out)
          have HE2 := hid (fun W u (h : Three w W ⟨pb2, u, k + 1, Pf.step1 (Pf.run (l2.take k)) ⟨d, f, (x1, x2), q, ls⟩⟩ ⟨pb3, v3, ln + k, Pf.run (l ++ l2.take k)⟩ ⟨pb1, v1, ln, Pf.run l⟩) => h.flip.each (by show ln + k < _; have := HL.out; have := HL2.out; omega) HGx.out)
          dsimp only at HE1 HE2
          rw [HC1.out] at HE1
          rw [HC2.out] at HE2
          unfold oL at HE1 HE2
          dsimp only at HE1 HE2
          have HK := hid (fun (W : World) (hc : Chg v2.foot Wb W) => box6p (HBx.out.chg hc (fun e => by have := HT3.out.hx.pp.has.lt _ e; omega)))
          clear HB9 HTb
          cases f1 <;> cases f2
          all_goals
            go_wp2_with (first
              | (have _t := HU1; clear _t; go_at_call 19; refine (HE2.out _ _ HU1.out).mono ?_; rintro e W5 ⟨rfl, u3, hu, -⟩; have HU := hid hu.flip; clear hu)
              | (go_at_call 19; refine HE1.out.mono ?_; rintro e W4 ⟨rfl, u1, hu, hc4⟩; have HU1 := hid hu; clear y0 y1 y2 y3 y4 y5; obtain ⟨y0, y1, y2, y3, y4, y5⟩ := HK.out _ hc4; clear hu hc4))
            go_roundw
            case rel => first | exact ⟨k + 1, c, rfl, by go_num, by omega, hid ⟨u1, u3, by rw [HT.out, run_snoc, ← List.append_assoc, run_snoc]; exact HU.out⟩, hid (by intro e; rw [HT.out, run_snoc, ← List.append_assoc, run_snoc]; exact ⟨(HF.out e).1, (HF.out e).2.1.step HC1.out, (HF.out e).2.2.step HC2.out⟩)⟩ | exact ⟨k + 1, false, rfl, by go_num, by omega, hid ⟨u1, u3, by rw [HT.out, run_snoc, ← List.append_assoc, run_snoc]; exact HU.out⟩, hid (by intro e; cases e)⟩
            case measure => simp [intOf]; omega
        · obtain rfl : ln2 = k := by omega
          have hfull : l2.take ln2 = l2 := by rw [← HLn2.out, List.take_length]
          have hF := HF.out
          rw [hfull] at hT3 hF
          have HT4 := hid hT3.rot.rot
          have HA := hid (hT3.rot.rot.add (by show ln + ln2 < _; have := HL.out; have := HL2.out; omega))
          have HF4 := hid hF
          dsimp only at HA
          clear HT3 HF hT3 hF hfull hlt
          cases c
          · go_wp2_with (go_at_call 20; refine HA.out.mono ?_; rintro e W6 ⟨rfl, u, hu⟩; have HU := hid hu; clear hu)
            go_ret
            exact ⟨rfl, HU.out.bl⟩
          · have HE := hid (Pf.parts (HF4.out rfl).1 (HF4.out rfl).2.1 (HF4.out rfl).2.2)
            have HS := hid (fun W u (h : Three w W ⟨pb1, u, ln + ln2, (Pf.run l).add (Pf.run l2)⟩ ⟨pb2, v2, ln2, Pf.run l2⟩ ⟨pb3, v3, ln + ln2, Pf.run (l ++ l2)⟩) => h.same HE.out)
            unfold EqPost at HS
            dsimp only at HS
            go_wp2_with (first
              | (have _t := HU; clear _t; go_at_call 21; refine (HS.out _ _ HU.out).mono ?_; rintro e W7 ⟨rfl, hb⟩; have HB7 := hid hb; clear hb)
              | (go_at_call 20; refine HA.out.mono ?_; rintro e W6 ⟨rfl, u, hu⟩; have HU := hid hu; clear hu))
            go_ret
            exact ⟨rfl, belows HU.out.bl HB7.out HU.out.bl.size⟩
end Go.Proofs.Ytfphiomhlhpphaa
namespace Go.Proofs.Ytfphiomhlhpphaa
open Go.ChangeShapes Go.WideShapes Go.ChangeAt Go.RowKit Go.WideMaps Go.WideElems

set_option maxRecDepth 100000
section
variable {H : Type} {enc : TypeId × Value → H}
theorem weights_allT {P : Program} {e : TypeId} : ∀ {ds : List (DataW H)} {d : DataW H}, d ∈ ds → (DataW.weightsAll P e ds).all (· ≤ reachBytes) = true → (d.weights P e).all (· ≤ reachBytes) = true
  | [], _, h, _ => by cases h
  | x :: r, d, h, hw => by
    simp only [DataW.weightsAll, List.all_append, Bool.and_eq_true] at hw
    rcases List.mem_cons.1 h with rfl | h
    · exact hw.1
    · exact weights_allT h hw.2
theorem bulk_pos (d : DataW H) : 1 ≤ Rows.uptoBulk d := by
  cases d with
  | lit l => cases l <;> simp [Rows.uptoBulk]
  | _ => simp [Rows.uptoBulk]
theorem bulk_len : ∀ l : List (DataW H), l.length ≤ Rows.uptoBulkAll l
  | [] => by simp [Rows.uptoBulkAll]
  | x :: r => by have h1 := bulk_pos x; have h2 := bulk_len r; simp only [Rows.uptoBulkAll, List.length_cons]; omega
theorem bulk_mem : ∀ {l : List (DataW H)} {d : DataW H}, d ∈ l → Rows.uptoBulk d ≤ Rows.uptoBulkAll l
  | [], _, h => by cases h
  | x :: r, d, h => by
    simp only [Rows.uptoBulkAll]
    rcases List.mem_cons.1 h with rfl | h
    · omega
    · have := bulk_mem h; omega
theorem A.cellsInt : Try.prog.cellsOf 3 = 1 := by kernel_rfl
theorem A.cellsI64 : Try.prog.cellsOf 2 = 1 := by kernel_rfl
set_option maxRecDepth 100000 in
/-- A list of things of so many cells each, in a cell. -/
theorem list_cell {α : Type} {W : World} {n : Nat} {k : Value} {y : DataW H × List MemPlace} {tS tE : TypeId} {s by_ : Nat} (G : DataW H → List Value → α → Prop) (hG : ∀ d cs x, G d cs x → cs.length = s) (hs : 0 < s)
    (hu : Try.prog.underlying tS = some (.slice tE)) (hco : Try.prog.cellsOf tE = s) (hby : Try.prog.bytesOf tE = by_) (hb0 : 0 < by_)
    (he : ∀ (m : Nat) (cs : List Value) (z : DataW H × List MemPlace), DataW.trod enc Try.prog W 0 (fun _ => true) true m tE cs = some z → (z.1.weights Try.prog tE).all (· ≤ reachBytes) = true → ∃ x, G z.1 cs x)
    (h : DataW.trod enc Try.prog W 0 (fun _ => true) true n tS [k] = some y) (hw : (y.1.weights Try.prog tS).all (· ≤ reachBytes) = true) :
    ∃ (xs : List α) (rs : List (List Value)), rs.length = xs.length ∧ (∀ (i : Nat) (r : List Value) (x : α), rs[i]? = some r → xs[i]? = some x → ∃ d, G d r x ∧ Rows.uptoBulk d ≤ Rows.uptoBulk y.1) ∧ Kit.IsS s W k xs.length rs.flatten ∧ xs.length * by_ ≤ 140737488351232 ∧ xs.length ≤ Rows.uptoBulk y.1 := by
  rcases DataW.trod_slice hu h with ⟨hcs, rfl⟩ | ⟨a, len, cap, elems, rest, m, -, hcs, rfl, -, hl, hm, hel, hcells, hsp, -⟩
  · obtain rfl : k = .slice none 0 0 := by simpa using hcs
    exact ⟨[], [], rfl, fun i r x hr => by simp at hr, ⟨by simp, by simp, .inl ⟨rfl, none, 0, rfl⟩⟩, by simp, by simp⟩
  · obtain rfl : k = .slice (some a) len cap := by simpa using hcs
    simp only [DataW.weights, hu, List.all_cons, List.all_append, Bool.and_eq_true, decide_eq_true_eq, hby] at hw
    have hcap : len * by_ ≤ 140737488351232 := by
      have h1 := hw.1
      simp only [List.length_map, reachBytes] at h1
      rw [hel] at h1
      exact Nat.le_trans (Nat.mul_le_mul_right _ (Nat.le_add_right _ _)) h1
    have hbl : len ≤ Rows.uptoBulk (.slice (elems.map (·.1)) (rest.map (·.1)) : DataW H) := by
      have := bulk_len (elems.map (·.1))
      rw [List.length_map, hel] at this
      simp only [Rows.uptoBulk]
      omega
    have each : ∀ i, ∃ q : List Value × Option α, i < len → q.1.length = s ∧ (∀ j, j < s → W.cell? ((a.add (i * s)).add j) = q.1[j]?) ∧ ∃ x d, q.2 = some x ∧ G d q.1 x ∧ Rows.uptoBulk d ≤ Rows.uptoBulk (.slice (elems.map (·.1)) (rest.map (·.1)) : DataW H) := by
      intro i
      by_cases hi : i < len
      · have h1 := hcells i hi
        rw [hco, List.getElem?_eq_getElem (by omega), Option.bind_eq_some_iff] at h1
        obtain ⟨cs, hcs', htr⟩ := h1
        have hmem : elems[i].1 ∈ elems.map (·.1) := List.mem_map_of_mem (List.getElem_mem _)
        obtain ⟨x, hx⟩ := he _ _ _ htr (weights_allT hmem hw.2.1)
        refine ⟨(cs, some x), fun _ => ⟨hG _ _ _ hx, fun j hj => (World.cells?_some hcs').2.2 j hj, x, _, rfl, hx, ?_⟩⟩
        have := bulk_mem hmem
        simp only [Rows.uptoBulk]
        omega
      · exact ⟨([], none), fun h => absurd h hi⟩
    obtain ⟨f, hfx⟩ := Classical.skolem.1 each
    have hxs : ∃ xs : List α, xs.length = len ∧ ∀ i, i < len → xs[i]? = (f i).2 := by
      have : ∀ m, m ≤ len → ∃ xs : List α, xs.length = m ∧ ∀ i, i < m → xs[i]? = (f i).2 := by
        intro m
        induction m with
        | zero => intro _; exact ⟨[], rfl, fun i hi => by omega⟩
        | succ m ih =>
          intro hm
          obtain ⟨xs, h1, h2⟩ := ih (by omega)
          obtain ⟨-, -, x, d, hx, -⟩ := hfx m (by omega)
          refine ⟨xs ++ [x], by simp [h1], fun i hi => ?_⟩
          by_cases e : i < m
          · rw [List.getElem?_append_left (by omega)]; exact h2 i e
          · obtain rfl : i = m := by omega
            rw [List.getElem?_append_right (by omega), h1, Nat.sub_self, hx]
            rfl
      exact this len (Nat.le_refl _)
    obtain ⟨xs, hxl, hxe⟩ := hxs
    have hrl : ∀ r ∈ (List.range len).map (fun i => (f i).1), r.length = s := by
      intro r hr
      obtain ⟨i, hi, rfl⟩ := List.mem_map.1 hr
      exact (hfx i (List.mem_range.1 hi)).1
    have hfl : ∀ (rs : List (List Value)), (∀ r ∈ rs, r.length = s) → rs.flatten.length = rs.length * s ∧ ∀ i r, rs[i]? = some r → ∀ j, j < s → rs.flatten[i * s + j]? = r[j]? := by
      intro rs
      induction rs with
      | nil => intro _; exact ⟨by simp, fun i r hr => by simp at hr⟩
      | cons r0 rs ih =>
        intro hr
        obtain ⟨h1, h2⟩ := ih (fun r h => hr r (List.mem_cons_of_mem _ h))
        have h0 := hr r0 (by simp)
        refine ⟨by rw [List.flatten_cons, List.length_append, h0, h1, List.length_cons, Nat.succ_mul]; omega, fun i r hi j hj => ?_⟩
        match i, hi with
        | 0, hi =>
          simp at hi
          subst hi
          rw [List.flatten_cons, List.getElem?_append_left (by omega)]
          simp
        | i + 1, hi =>
          rw [List.flatten_cons, List.getElem?_append_right (by rw [h0, Nat.succ_mul]; omega), h0, ← h2 i r (by simpa using hi) j hj]
          congr 1
          rw [Nat.succ_mul]
          omega
    obtain ⟨hfl1, hfl2⟩ := hfl _ hrl
    have hrlen : ((List.range len).map (fun i => (f i).1)).length = len := by simp
    refine ⟨xs, (List.range len).map (fun i => (f i).1), by rw [hrlen, hxl], fun i r x hr hx => ?_, ⟨by rw [hfl1, hrlen, hxl], by rw [hxl]; exact Nat.le_trans (Nat.le_trans (Nat.le_mul_of_pos_right _ hb0) hcap) (by decide), ?_⟩, by rw [hxl]; exact hcap, by rw [hxl]; exact hbl⟩
    · have hi : i < len := by
        have := (List.getElem?_eq_some_iff.1 hx).1
        omega
      obtain ⟨-, -, x', d, hx', hg, hb⟩ := hfx i hi
      rw [hxe i hi, hx'] at hx
      cases hx
      rw [List.getElem?_map, List.getElem?_range hi] at hr
      simp only [Option.map_some, Option.some.injEq] at hr
      subst hr
      exact ⟨d, hg, hb⟩
    · by_cases h0 : len = 0
      · exact .inl ⟨by rw [hxl, h0], some a, cap, by rw [h0]⟩
      · obtain ⟨b, o, spot⟩ := a
        have hsp0 : ∃ u, W.cell? (((⟨b, o, spot⟩ : Addr).add (0 * s)).add 0) = some u := by
          obtain ⟨h1, h2, -⟩ := hfx 0 (by omega)
          refine ⟨(f 0).1[0]'(by omega), ?_⟩
          rw [h2 0 hs, List.getElem?_eq_getElem]
        obtain ⟨u0, hsp0⟩ := hsp0
        have hspot : spot = none := by
          have := World.cell?_spot hsp0
          simpa [Addr.add] using this
        subst hspot
        have hat : ∀ i j, ((⟨b, o, none⟩ : Addr).add i).add j = ⟨b, o + (i + j), none⟩ := by
          intro i j
          rw [add_plain, add_plain]; congr 1; omega
        refine .inr ⟨b, o, cap, by rw [hxl], by rw [hxl]; exact hl, ?_, fun i u hi => ?_⟩
        · have := World.block_lt_of_cell? W _ hsp0
          simpa [Addr.add] using this
        · have hil : i < len * s := by
            have := (List.getElem?_eq_some_iff.1 hi).1
            rw [hfl1, hrlen] at this
            exact this
          have hq : i / s < len := Nat.div_lt_of_lt_mul (by rw [Nat.mul_comm]; exact hil)
          have hr : i % s < s := Nat.mod_lt _ hs
          have e : i / s * s + i % s = i := by rw [Nat.mul_comm]; exact Nat.div_add_mod i s
          have hget : ((List.range len).map (fun i => (f i).1))[i / s]? = some (f (i / s)).1 := by rw [List.getElem?_map, List.getElem?_range hq]; rfl
          have h1 := hfl2 (i / s) _ hget (i % s) hr
          rw [e] at h1
          have h2 := (hfx (i / s) hq).2.1 (i % s) hr
          rw [hat, e] at h2
          rw [h2, ← h1]
          exact hi
theorem rs_map {α : Type} {f : α → List Value} {xs : List α} {rs : List (List Value)} (hl : rs.length = xs.length) (h : ∀ (i : Nat) (r : List Value) (x : α), rs[i]? = some r → xs[i]? = some x → r = f x) : rs.flatten = xs.flatMap f := by
  have e : rs = xs.map f := by
    apply List.ext_getElem?
    intro i
    rw [List.getElem?_map]
    by_cases hi : i < xs.length
    · have h1 : rs[i]? = some rs[i] := List.getElem?_eq_getElem (by omega)
      have h2 : xs[i]? = some xs[i] := List.getElem?_eq_getElem hi
      rw [h1, h2, h i _ _ h1 h2]
      rfl
    · rw [List.getElem?_eq_none (by omega), List.getElem?_eq_none (by omega)]
      rfl
  rw [e, List.flatMap_def]
theorem weights_eachT {P : Program} : ∀ {ts : List TypeId} {ds : List (DataW H)} {j : Nat} {t : TypeId} {d : DataW H}, ts[j]? = some t → ds[j]? = some d → (DataW.weightsEach P ts ds).all (· ≤ reachBytes) = true → (d.weights P t).all (· ≤ reachBytes) = true
  | [], _, _, _, _, h, _, _ => by simp at h
  | _, [], _, _, _, _, h, _ => by simp at h
  | t :: ts, d :: ds, 0, _, _, h1, h2, h => by
    simp only [List.getElem?_cons_zero, Option.some.injEq] at h1 h2
    subst h1 h2
    simp only [DataW.weightsEach, List.all_append, Bool.and_eq_true] at h
    exact h.1
  | t :: ts, d :: ds, j + 1, _, _, h1, h2, h => by
    simp only [DataW.weightsEach, List.all_append, Bool.and_eq_true] at h
    exact weights_eachT (j := j) (by simpa using h1) (by simpa using h2) h.2
theorem i8_of {a : Int} (h : (Lit.int .i64 a).wf = true) : I8 a := by
  simp [Lit.wf, IntKind.min, IntKind.max, IntKind.signed, IntKind.bits] at h
  unfold I8
  omega
theorem A.cellsSite : Try.prog.cellsOf 29 = 2 := by kernel_rfl
theorem site_cells {W : World} {n : Nat} {k0 k1 : Value} {y : DataW H × List MemPlace} (h : DataW.trod enc Try.prog W 0 (fun _ => true) true n 29 [k0, k1] = some y) : ∃ x : Int × Int, k0 = .int .i64 x.1 ∧ k1 = .int .i64 x.2 ∧ TS.ok x := by
  obtain ⟨xs, m, -, -, hl, hlen, hf⟩ := DataW.trod_struct Try.underlying29 h
  have hx2 : xs.length = 2 := hlen
  match xs, hx2 with
  | [x0, x1], _ =>
  obtain ⟨a, e0, -, w0⟩ := DataW.trod_int Try.underlying3 (hf 0 _ rfl)
  obtain ⟨b, e1, -, w1⟩ := DataW.trod_int Try.underlying3 (hf 1 _ rfl)
  have q0 : ([k0, k1].drop 0).take (Try.prog.cellsOf 3) = [.int .i64 a] := e0
  have q1 : ([k0, k1].drop 1).take (Try.prog.cellsOf 3) = [.int .i64 b] := e1
  rw [A.cellsInt] at q0 q1
  simp only [List.drop_zero, List.take_succ_cons, List.take_zero, List.cons.injEq, and_true, List.drop_succ_cons] at q0 q1
  exact ⟨(a, b), q0, q1, i8_of w0, i8_of w1⟩
theorem o_cells {W : World} {n : Nat} {cs : List Value} {y : DataW H × List MemPlace} (h : DataW.trod enc Try.prog W 0 (fun _ => true) true n 31 cs = some y) : ∃ x : Pf.O, cs = oL x ∧ GoodO x := by
  obtain ⟨xs, m, -, -, hl, hlen, hf⟩ := DataW.trod_struct Try.underlying31 h
  have hl6 : cs.length = 6 := hl.trans (by kernel_rfl)
  have hx5 : xs.length = 5 := hlen
  match xs, hx5 with
  | [x0, x1, x2, x3, x4], _ =>
  match cs, hl6 with
  | [k0, k1, k2, k3, k4, k5], _ =>
  obtain ⟨a, e0, -, w0⟩ := DataW.trod_int Try.underlying3 (hf 0 _ rfl)
  obtain ⟨b, e1, -, w1⟩ := DataW.trod_int Try.underlying3 (hf 1 _ rfl)
  obtain ⟨c, e3, -, w3⟩ := DataW.trod_int Try.underlying3 (hf 3 _ rfl)
  obtain ⟨d, e4, -, w4⟩ := DataW.trod_int Try.underlying2 (hf 4 _ rfl)
  have q0 : ([k0, k1, k2, k3, k4, k5].drop 0).take (Try.prog.cellsOf 3) = [.int .i64 a] := e0
  have q1 : ([k0, k1, k2, k3, k4, k5].drop 1).take (Try.prog.cellsOf 3) = [.int .i64 b] := e1
  have q3 : ([k0, k1, k2, k3, k4, k5].drop 4).take (Try.prog.cellsOf 3) = [.int .i64 c] := e3
  have q4 : ([k0, k1, k2, k3, k4, k5].drop 5).take (Try.prog.cellsOf 2) = [.int .i64 d] := e4
  have f2 : DataW.trod enc Try.prog W 0 (fun _ => true) true m 29 (([k0, k1, k2, k3, k4, k5].drop 2).take (Try.prog.cellsOf 29)) = some x2 := hf 2 _ rfl
  rw [A.cellsInt] at q0 q1 q3
  rw [A.cellsI64] at q4
  rw [A.cellsSite] at f2
  simp only [List.drop_zero, List.take_succ_cons, List.take_zero, List.cons.injEq, and_true, List.drop_succ_cons] at q0 q1 q3 q4 f2
  obtain ⟨s, rfl, rfl, hs⟩ := site_cells f2
  subst q0 q1 q3 q4
  exact ⟨⟨a, b, s, c, d⟩, rfl, i8_of w0, i8_of w1, hs, i8_of w3, i8_of w4⟩
theorem open_os {W : World} {v : Value} {d : DataW H} {ps : List MemPlace} {base : Nat}
    (hok : Value.okWide Try.prog W .any base 22 v) (h : DataW.Trod enc Try.prog W 0 (fun _ => true) true 22 v d ps) (hw : (d.weights Try.prog 22).all (· ≤ reachBytes) = true) :
    ∃ l : List Pf.O, Kit.IsS 6 W v l.length (l.flatMap oL) ∧ l.length * 48 ≤ 140737488351232 ∧ (∀ o ∈ l, GoodO o) ∧ l.length ≤ Rows.uptoBulk d := by
  obtain ⟨a0, len, cap, rfl⟩ := okWide_slice Try.underlying22 hok
  obtain ⟨fuel, hf⟩ := h
  obtain ⟨xs, rs, h1, h2, h3, h4, h5⟩ := list_cell (s := 6) (by_ := 48) (tE := 31) (fun (_ : DataW H) cs (x : Pf.O) => cs = oL x ∧ GoodO x) (fun _ _ x h => by rw [h.1]; rfl) (by decide) Try.underlying22 (by kernel_rfl) (by kernel_rfl) (by decide) (fun m cs z hz _ => o_cells hz) (y := (d, ps)) hf hw
  refine ⟨xs, ?_, h4, fun x hx => ?_, h5⟩
  · rw [← rs_map (f := oL) h1 (fun i r x hr hx => by obtain ⟨d, hd, -⟩ := h2 i r x hr hx; exact hd.1)]
    exact h3
  · obtain ⟨i, hi⟩ := List.mem_iff_getElem?.1 hx
    have hlt : i < rs.length := by rw [h1]; exact (List.getElem?_eq_some_iff.1 hi).1
    obtain ⟨d, hd, -⟩ := h2 i _ x (List.getElem?_eq_getElem hlt) hi
    exact hd.2
end
end Go.Proofs.Ytfphiomhlhpphaa
namespace Go.Proofs.Ytfphiomhlhpphaa.Kit
open Go Go.RowKit Go.ChangeShapes Go.WideShapes Go.ChangeAt

section
variable {H : Type} {enc : TypeId × Value → H} {P : Program}
/-- Arguments read in a later world as they did. -/
theorem trodAll_later (hl : laidOutB P = true) {W W' : World} (hb : Below W.heap.size W W') (sp : Nat → Bool) :
    ∀ {ts : List TypeId} {vs : List Value} {ds : List (DataW H)} {ps : List MemPlace}, (∀ t ∈ ts, P.readableRec t = true ∧ t < P.types.size) → DataW.TrodAll enc P W 0 (fun _ => true) true ts vs ds ps →
      (∀ x ∈ ps, x.block < W.heap.size) → (∀ x ∈ ps, sp x.block = true) → DataW.TrodAll enc P W' 0 sp true ts vs ds ps
  | [], vs, ds, ps, _, h, _, _ => by
    obtain ⟨rfl, rfl, rfl⟩ := trodAll_nil h
    exact trodAll_mk0
  | t :: ts, vs, ds, ps, hr, h, hlt, hsp => by
    obtain ⟨v, vs', d, ds', p, q, rfl, rfl, rfl, h0, h1⟩ := trodAll_cons h
    exact trodAll_cons_mk (WideElems.Trod_stays hl (hr t (by simp)).1 (hr t (by simp)).2 h0 (fun x hx => hb.same (hlt x (by simp [hx]))) (fun x hx => hsp x (by simp [hx])))
      (trodAll_later hl hb sp (fun t ht => hr t (by simp [ht])) h1 (fun x hx => hlt x (by simp [hx])) (fun x hx => hsp x (by simp [hx])))
/-- A law's answer: true; all that it was handed reads as it did. -/
theorem law_post {f : Func} {s : ChangeSpec} {apart fresh handsOn again : Bool} {W W' : World} {args : Array Value} {ds gs : List (DataW H)} {before : List MemPlace} {tb : TypeId}
    (hv : s.vars = []) (hr : f.resultTypes = #[tb]) (htb : P.underlying tb = some .bool) (hl : laidOutB P = true) (hrd : ∀ t ∈ f.params.toList, P.readableRec t = true ∧ t < P.types.size)
    (hW : DataW.Whole enc P f.params.toList s.vars apart W args.toList ds gs before)
    (hfn : s.fn H (ds ++ gs) = { results := [.lit (.bool true)], args := ds }) (hb : Below W.heap.size W W') :
    s.post enc P f apart fresh handsOn again W args (.bool true) W' := by
  have hlt : ∀ p ∈ before, p.block < W.heap.size := fun p hp => hW.lt p hp
  have hW' := hW
  obtain ⟨p, q, hA, hV, rfl, hfz, hnd⟩ := hW
  rw [hv] at hV
  obtain ⟨rfl, rfl⟩ := trodVars_none hV
  simp only [List.append_nil] at hlt hfz hnd hW' hfn ⊢
  have hres : ∀ (b : Nat) (sp : Nat → Bool) (hd : Bool), DataW.TrodAll enc P W' b sp hd f.resultTypes.toList ((Value.bool true).resultList f.resultTypes.size) (s.fn H ds).results [] := by
    intro b sp hd
    rw [hr, hfn]
    exact trodAll_cons_mk (shut_bool htb _) trodAll_mk0
  have hargs : ∀ sp : Nat → Bool, (∀ x ∈ p, sp x.block = true) → DataW.TrodAll enc P W' 0 sp true f.params.toList args.toList (s.fn H ds).args p := by
    intro sp hsp
    rw [hfn]
    exact trodAll_later hl hb sp hrd hA hlt hsp
  have hvs : ∀ sp : Nat → Bool, DataW.TrodVars enc P W' sp s.vars (s.fn H ds).vars [] := by
    intro sp
    rw [hv, hfn]
    rfl
  have hold : ∀ x ∈ p, (fun b => decide (b < W.heap.size)) x.block = true := fun x hx => by simpa using hlt x hx
  refine ⟨ds, [], p, [], p, [], hW', ?_, ?_, ?_, World.keptBut_mono (fun x hx => ⟨hx, .inr (.inl hx)⟩) (hb.frame (· ∈ p)), fun _ => ?_⟩
  · rw [List.append_nil]; exact hres _ _ _
  · rw [List.append_nil]; exact hargs _ hold
  · rw [List.append_nil]; exact hvs _
  · refine ⟨ok_one hr rfl (okWide_bool_mk htb _), _, _, ([] ++ p) ++ [], ⟨[] ++ p, [], trodAll_append (hargs _ (fun _ _ => rfl)) (hres _ _ _), hvs _, rfl, ?_, ?_⟩, ?_⟩
    · intro b off hp
      have hin : MemPlace.cell b off ∈ p := by simpa using hp
      have := hb.frozen (p := ⟨b, off, none⟩) (hlt _ hin)
      rw [this]
      exact hfz b off hin
    · intro ha
      simpa using hnd ha
    · intro x hx _
      simpa using hx
end
end Go.Proofs.Ytfphiomhlhpphaa.Kit
namespace Go.Proofs.Ytfphiomhlhpphaa.profilePartsCard
open Go.ChangeShapes Go.WideShapes Go.ChangeAt Go.RowKit
theorem own : ownKnob Try.prog.godebug = none := by kernel_rfl
set_option maxRecDepth 100000 in
theorem contract (H : Type) (enc : TypeId × Value → H) (W : World) (base : Nat) (args : Array Value) (ds gs : List (DataW H)) (before : List MemPlace)
    (hval : ∀ (j : Nat) t v, Try.f5.params[j]? = some t → args[j]? = some v → Value.okWide Try.prog W .any base t v)
    (hW : DataW.Whole enc Try.prog Try.f5.params.toList Rows.profilePartsSpec.vars false W args.toList ds gs before)
    (hsz : (DataW.weightsEach Try.prog (Try.f5.params.toList ++ (OpenSpec.ofChange Rows.profilePartsSpec).bare.plain.varTypes Try.prog) (ds ++ gs)).all (· ≤ reachBytes) = true) :
    Calls Try.prog 5 args W fun e W' => ∃ v, e = .returned v ∧ Rows.profilePartsSpec.post enc Try.prog Try.f5 false true false false W args v W' := by
  have hW' := hW
  obtain ⟨p, q, hA0, hV, rfl, hfz, hnd⟩ := hW
  have hA : DataW.TrodAll enc Try.prog W 0 (fun _ => true) true Try.f5.params.toList args.toList ds p := hA0
  rw [Try.params5] at hA hval hsz
  obtain ⟨v0, vs0, d0, ds0, p0, q0, hargs, rfl, rfl, h0, r0⟩ := trodAll_cons hA
  obtain ⟨v1, vs1, d1, ds1, p1, q1, rfl, rfl, rfl, h1, r1⟩ := trodAll_cons r0
  obtain ⟨rfl, rfl, rfl⟩ := trodAll_nil r1
  obtain rfl : args = #[v0, v1] := by cases args; simp_all
  obtain ⟨rfl, rfl⟩ := trodVars_none hV
  obtain ⟨x0, wx0, wn0, wg0, wb0⟩ := open_os (hval 0 22 v0 rfl rfl) h0 (weights_eachT (j := 0) (t := 22) (d := d0) rfl rfl hsz)
  obtain ⟨x1, wx1, wn1, wg1, wb1⟩ := open_os (hval 1 22 v1 rfl rfl) h1 (weights_eachT (j := 1) (t := 22) (d := d1) rfl rfl hsz)
  refine (parts_law x0 x1 _ _ W wx0 wx1 wg0 wg1 wn0 wn1).mono fun e W' ⟨he, hb⟩ => ?_
  subst he
  exact ⟨_, rfl, Kit.law_post rfl rfl Try.underlying4 (by kernel_rfl) (by decide +kernel) hW' rfl hb⟩
theorem reads (os : Os) {H : Type} (enc : TypeId × Value → H) : ∃ places, DataW.whole enc Try.prog ((World.holding Try.prog os ⟨#[], #[], []⟩).forCall (fun _ _ => 0) ⟨#[], #[.slice none 0 0, .slice none 0 0], []⟩).memory Try.f5.params.toList Rows.profilePartsSpec.vars false (#[.slice none 0 0, .slice none 0 0] : Array Value).toList 8 = some ([.nil, .nil], [], places) :=
  ⟨[], by kernel_rfl⟩
theorem laid_met (os : Os) : laidMet Try.prog Rows.profilePartsRow.laid ((World.holding Try.prog os ⟨#[], #[], []⟩).forCall (fun _ _ => 0) ⟨#[], #[.slice none 0 0, .slice none 0 0], []⟩).memory :=
  laidMet_of_run' 8 (by kernel_rfl) (by kernel_rfl)
set_option maxRecDepth 100000 in
theorem lifted (os : Os) (started : os.Started) (H : Type) (enc : TypeId × Value → H) (F : Stop.Interp) :
    ReturnsInHanded {} Try.checked os 5 .any ((OpenSpec.ofChange Rows.profilePartsSpec).preRow enc Try.prog Try.f5 Rows.profilePartsRow.domain false Rows.profilePartsRow.laid) (((OpenSpec.ofChange Rows.profilePartsSpec).at F).post enc Try.prog Try.f5 false true false false) := by
  obtain ⟨places, hx⟩ := reads os enc
  refine returnsInHanded_of_row (C := Try.checked) (s := (OpenSpec.ofChange Rows.profilePartsSpec)) own started (by kernel_rfl) Try.func5
    (witness_row_at (enc := enc) (C := Try.checked) false (World.holding Try.prog os ⟨#[], #[], []⟩) #[.slice none 0 0, .slice none 0 0] rfl (by kernel_rfl) (by kernel_rfl) (by kernel_rfl)
      (OpenSpec.preRow_of_cond 8 hx (by kernel_rfl) (fun k hk => by cases hk) (by kernel_rfl) (laid_met os))) ?_
  intro W base args ds gs before hval hW _ _ hsz _ _ _
  exact contract H enc W base args ds gs before hval hW hsz
theorem proved : Rows.ProfilePartsSaid :=
  OpenClaim.holds_of_cond 5 Try.f5 rfl rfl rfl rfl rfl rfl rfl ⟨rfl, rfl, rfl, rfl, rfl⟩ rfl rfl rfl rfl rfl (by kernel_rfl) Try.func5 (by kernel_rfl)
    (of_decide_eq_true (by kernel_rfl)) (by unfold Func.isWrapper; first | (rw [if_pos (by decide +kernel)]; kernel_rfl) | (rw [if_neg (by decide +kernel)]; exact ⟨rfl, rfl⟩))
    (fun os started H enc _ F => by rw [OpenClaim.pre_eq_preRow]; exact lifted os started H enc F)
end Go.Proofs.Ytfphiomhlhpphaa.profilePartsCard

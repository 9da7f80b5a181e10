/- Own kit: code without draws, run by the kernel; what it comes to is what every run comes to. -/
import Derived.WalkKit
namespace Go.Proofs.YtihklojiionanaaDoor.Kit
open Go

/-- What leaves the world as it is, wherever it comes to a value. -/
def Reads {α : Type} (x : Sem α) : Prop := ∀ (P : Program) (w : World) (v : α) (w' : World), x.run P w = .ok v w' → w' = w
theorem Reads.pure {α : Type} (a : α) : Reads (Sem.pure a) := fun _ _ _ _ h => by
  simp only [Sem.run, Result.ok.injEq] at h; exact h.2.symm
theorem Reads.halt {α : Type} (h : Halt) : Reads (Sem.halt (α := α) h) := fun _ _ _ _ h => by simp [Sem.run] at h
theorem Reads.bind {α β : Type} {x : Sem α} {f : α → Sem β} (hx : Reads x) (hf : ∀ a, Reads (f a)) : Reads (x >>= f) := by
  intro P w v w' h
  rw [Sem.run_bind] at h
  cases hr : x.run P w with
  | halt h1 w1 => rw [hr] at h; simp at h
  | ok a w1 =>
    rw [hr] at h
    simp only [Result.andThen_ok] at h
    have h1 := hx P w a w1 hr
    subst h1
    exact hf a P _ v w' h
theorem Reads.program {α : Type} (k : Program → Sem α) (hk : ∀ p, Reads (k p)) : Reads (Sem.program k) := fun P w v w' h => by
  simp only [Sem.run] at h; exact hk P P w v w' h
theorem Reads.load {α : Type} (m : Mode) (a : Addr) (k : Value → Sem α) (hk : ∀ v, Reads (k v)) : Reads (Sem.load m a k) := fun P w v w' h => by
  simp only [Sem.run] at h
  split at h
  · exact hk _ P w v w' h
  · split at h
    · exact hk _ P w v w' h
    · cases h
theorem reads_typeInfo (t : TypeId) : Reads (typeInfo t) := by
  refine Reads.bind (.program _ fun p => .pure p) fun p => ?_
  split
  · exact .pure _
  · exact .halt _
theorem reads_underlying (t : TypeId) : Reads (underlying t) := by
  refine Reads.bind (.program _ fun p => .pure p) fun p => ?_
  split
  · exact .pure _
  · exact .halt _
theorem reads_isAgg (t : TypeId) : Reads (isAgg t) := by
  refine (reads_underlying t).bind fun d => ?_
  split <;> exact .pure _
theorem reads_loadCellsFrom (a : Addr) : ∀ (n i : Nat) (acc : Array Value), Reads (loadCellsFrom a i n acc)
  | 0, _, acc => .pure acc
  | n + 1, i, acc => by
    unfold loadCellsFrom
    exact Reads.bind (.load _ _ _ fun v => .pure v) fun v => reads_loadCellsFrom a n (i + 1) _
theorem reads_loadVar (t : TypeId) (a : Addr) : Reads (loadVar t a) := by
  unfold loadVar
  refine (reads_isAgg t).bind fun b => ?_
  split
  · exact ((reads_typeInfo t).bind fun i => .pure _).bind fun n => (reads_loadCellsFrom a n 0 #[]).bind fun cs => .pure _
  · exact .load _ _ _ fun v => .pure v
theorem reads_asAddr (v : Value) : Reads (asAddr v) := by
  unfold asAddr
  split
  · exact .pure _
  · intro P w v w' h; simp [runtimePanic] at h
  · exact .halt _
theorem reads_mapM {α β : Type} {f : α → Sem β} (hf : ∀ a, Reads (f a)) : ∀ l : List α, Reads (l.mapM f)
  | [] => .pure []
  | a :: l => by
    rw [List.mapM_cons]
    exact (hf a).bind fun b => (reads_mapM hf l).bind fun bs => .pure _
theorem reads_results (fn : Func) (tmps : Array Value) : Reads (results fn tmps) := by
  unfold results
  refine Reads.bind ?_ fun vs => .pure _
  rw [Array.mapM_eq_mapM_toList]
  refine Reads.bind (reads_mapM (fun r => ?_) _) fun vs => .pure _
  split
  · exact .pure _
  · exact (reads_asAddr _).bind fun a => reads_loadVar _ _

mutual
/-- Operations run one behind the other, as long as each gives a value or enters a function that can be run. -/
def runL (P : Program) (ops : Array Oper) : Nat → List Oper → Act → World → Option (Act × World)
  | 0, _, _, _ => none
  | _ + 1, [], a, w => some (a, w)
  | n + 1, o :: rest, a, w =>
    if Region.wanted o (yielded ops a.tmps) then
      match (execOp a.eval o).run P w with
      | .ok (.value v) w' => runL P ops n rest (a.put o.dst v) w'
      | .ok .skip w' => runL P ops n rest (a.put o.dst undef) w'
      | .ok (.enter f args) w' =>
        match runF P n f args w' with
        | some (v, w'') => runL P ops n rest (a.put o.dst v) w''
        | none => none
      | _ => none
    else runL P ops n rest (a.put o.dst undef) w
/-- Code. -/
def runC (P : Program) : Nat → Code → Act → World → Option (Exit × Act × World)
  | 0, _, _, _ => none
  | _ + 1, .skip, a, w => some (.normal, a, w)
  | _ + 1, .exit id, a, w => some (.exit id, a, w)
  | _ + 1, .ret, a, w => some (.ret, a, w)
  | n + 1, .region _ ops false, a, w =>
    match runL P ops n ops.toList a w with
    | some (a', w') => some (.normal, a', w')
    | none => none
  | n + 1, .seq x y, a, w =>
    match runC P n x a w with
    | some (.normal, a', w') => runC P n y a' w'
    | r => r
  | n + 1, .cond c x y, a, w =>
    match a.eval c with
    | .bool true => runC P n x a w
    | .bool false => runC P n y a w
    | _ => none
  | n + 1, .block id x, a, w =>
    match runC P n x a w with
    | some (.exit id', a', w') => if id' = id then some (.normal, a', w') else some (.exit id', a', w')
    | r => r
  | _ + 1, _, _, _ => none
/-- A function. -/
def runF (P : Program) : Nat → FuncId → Array Value → World → Option (Value × World)
  | 0, _, _, _ => none
  | n + 1, f, args, w =>
    match P.funcs[f]? with
    | none => none
    | some fn =>
      match fn.body with
      | none => none
      | some c =>
        match runC P n c { tmps := args ++ Array.replicate (fn.ntmps - args.size) undef, defers := [] } w with
        | some (.normal, a, w') | some (.ret, a, w') =>
          match a.defers, (results fn a.tmps).run P w' with
          | [], .ok v _ => some (v, w')
          | _, _ => none
        | _ => none
end

section
variable {P : Program}
theorem run_all : ∀ n : Nat,
    (∀ {ops : Array Oper} {l : List Oper} {a : Act} {w : World} {a' : Act} {w' : World} {Q : Exit → Act → World → Prop},
      runL P ops n l a w = some (a', w') → Q .normal a' w' → wpList P ops Q l a w) ∧
    (∀ {c : Code} {a : Act} {w : World} {e : Exit} {a' : Act} {w' : World} {Q : Exit → Act → World → Prop},
      runC P n c a w = some (e, a', w') → Q e a' w' → c.wp P Q a w) ∧
    (∀ {f : FuncId} {args : Array Value} {w : World} {v : Value} {w' : World},
      runF P n f args w = some (v, w') → Calls P f args w fun e w'' => e = .returned v ∧ w'' = w') := by
  intro n
  induction n with
  | zero =>
    refine ⟨?_, ?_, ?_⟩
    · intro ops l a w a' w' Q h; simp [runL] at h
    · intro c a w e a' w' Q h; simp [runC] at h
    · intro f args w v w' h; simp [runF] at h
  | succ n ih =>
    obtain ⟨ihL, ihC, ihF⟩ := ih
    refine ⟨?_, ?_, ?_⟩
    · intro ops l a w a' w' Q h hQ
      cases l with
      | nil =>
        simp only [runL, Option.some.injEq, Prod.mk.injEq] at h
        obtain ⟨rfl, rfl⟩ := h
        exact hQ
      | cons o rest =>
        simp only [runL] at h
        unfold wpList
        split at h
        · rename_i hw
          rw [if_pos hw]
          left
          unfold Oper.wp
          split at h
          · rename_i he
            rw [he, Oper.upon_value]
            exact ihL h hQ
          · rename_i he
            rw [he, Oper.upon_skip]
            exact ihL h hQ
          · rename_i he
            rw [he, Oper.upon_enter]
            split at h
            · rename_i hr
              refine (ihF hr).mono ?_
              rintro e w1 ⟨rfl, rfl⟩
              exact ihL h hQ
            · cases h
          · cases h
        · rename_i hw
          rw [if_neg hw]
          exact ihL h hQ
    · intro c a w e a' w' Q h hQ
      cases c <;> try (simp [runC] at h; done)
      case skip => simp only [runC, Option.some.injEq, Prod.mk.injEq] at h; obtain ⟨rfl, rfl, rfl⟩ := h; exact wp_skip hQ
      case exit id => simp only [runC, Option.some.injEq, Prod.mk.injEq] at h; obtain ⟨rfl, rfl, rfl⟩ := h; exact wp_exit hQ
      case ret => simp only [runC, Option.some.injEq, Prod.mk.injEq] at h; obtain ⟨rfl, rfl, rfl⟩ := h; exact wp_ret hQ
      case region id ops draw =>
        cases draw with
        | true => simp [runC] at h
        | false =>
          simp only [runC] at h
          split at h
          · rename_i hr
            simp only [Option.some.injEq, Prod.mk.injEq] at h
            obtain ⟨rfl, rfl, rfl⟩ := h
            exact wp_region_list (ihL hr hQ)
          · cases h
      case seq x y =>
        simp only [runC] at h
        split at h
        · rename_i hr
          exact wp_seq (ihC hr (ihC h hQ))
        · rename_i hr
          refine wp_seq (ihC h ?_)
          cases e <;> first | exact hQ | skip
          exact absurd h (hr _ _)
      case cond c x y =>
        simp only [runC] at h
        split at h
        · rename_i hc; exact wp_cond_true hc (ihC h hQ)
        · rename_i hc; exact wp_cond_false hc (ihC h hQ)
        · cases h
      case block id x =>
        simp only [runC] at h
        split at h
        · rename_i id' a1 w1 hr
          refine wp_block (ihC hr ?_)
          split at h
          · rename_i hid
            simp only [Option.some.injEq, Prod.mk.injEq] at h
            obtain ⟨rfl, rfl, rfl⟩ := h
            simp only [Exit.inBlock, if_pos hid]; exact hQ
          · rename_i hid
            simp only [Option.some.injEq, Prod.mk.injEq] at h
            obtain ⟨rfl, rfl, rfl⟩ := h
            simp only [Exit.inBlock, if_neg hid]; exact hQ
        · rename_i hr
          refine wp_block (ihC h ?_)
          cases e <;> first | exact hQ | skip
          exact absurd h (hr _ _ _)
    · intro f args w v w' h
      simp only [runF] at h
      split at h
      · cases h
      · rename_i fn hf
        split at h
        · cases h
        · rename_i c hb
          refine calls_of_wp hf hb ?_
          split at h
          · rename_i a1 w1 hr
            split at h
            · rename_i v1 w2 hd hv
              simp only [Option.some.injEq, Prod.mk.injEq] at h
              obtain ⟨rfl, rfl⟩ := h
              have := reads_results fn a1.tmps _ _ _ _ hv
              subst this
              exact ihC hr ⟨hd, _, hv, rfl, rfl⟩
            · cases h
          · rename_i a1 w1 hr
            split at h
            · rename_i v1 w2 hd hv
              simp only [Option.some.injEq, Prod.mk.injEq] at h
              obtain ⟨rfl, rfl⟩ := h
              have := reads_results fn a1.tmps _ _ _ _ hv
              subst this
              exact ihC hr ⟨hd, _, hv, rfl, rfl⟩
            · cases h
          · cases h
theorem calls_run {f : FuncId} {args : Array Value} {w : World} {v : Value} {w' : World} (n : Nat) (h : runF P n f args w = some (v, w')) :
    Calls P f args w fun e w'' => e = .returned v ∧ w'' = w' := (run_all n).2.2 h
/-- One operation that gives a value. -/
theorem wpList_value {ops : Array Oper} {rest : List Oper} {o : Oper} {a : Act} {w : World} {Q : Exit → Act → World → Prop} (v : Value) (w' : World) (hg : o.guard = none)
    (h : (execOp a.eval o).run P w = .ok (.value v) w') (hr : wpList P ops Q rest (a.put o.dst v) w') : wpList P ops Q (o :: rest) a w := by
  unfold wpList
  rw [if_pos (by simp [Region.wanted, hg])]
  left
  unfold Oper.wp
  rw [h, Oper.upon_value]
  exact hr
end
end Go.Proofs.YtihklojiionanaaDoor.Kit

/- Contracts of the document's Form, Name, Size, Find, and of opcode.Name and opcode.Find. -/
import Derived.Test.YtihklojiionanaaDoorOpD
import Derived.Test.YtihklojiionanaaDoorLaw
import Derived.Deep.WholeRow
namespace Go.Proofs.YtihklojiionanaaDoor
open Go.RowKit

theorem names_gap (k : Nat) (h : k < 200) (hz : Op1.forms.getD k 0 = 0) : Op1.names.getD k [] = [] :=
  (show ∀ k, k < 200 → Op1.forms.getD k 0 = 0 → Op1.names.getD k [] = [] by decide +kernel) k h hz
theorem nameOf_gap {op : Int} (h : Op1.isOp op = false) : Op1.nameOf op = [] := by
  unfold Op1.nameOf
  split
  · rename_i hr
    obtain ⟨k, rfl⟩ := Int.eq_ofNat_of_zero_le hr.1
    unfold Op1.isOp at h
    rw [Op1.fm_nat k (by omega)] at h
    exact names_gap k (by omega) (by simpa using h)
  · rfl
theorem findV_parts (op : Int) : ∃ r, findV op = rowV r (Op1.isOp op) ∧ r.2.2 = Op1.formOf op ∧ r.2.1 = Op1.nameOf op := by
  unfold findV
  rw [Op1.find_op]
  cases h : Op1.isOp op with
  | true => exact ⟨_, rfl, rfl, rfl⟩
  | false =>
    refine ⟨(0, [], 0), rfl, ?_, (nameOf_gap h).symm⟩
    unfold Op1.isOp at h
    unfold Op1.formOf
    have : Op1.fm op = 0 := by simpa using h
    rw [this]
/-- A name as a value. -/
def nmV (l : List UInt8) : Value := .string ⟨l.toArray⟩
theorem belows {B : Nat} {a b c : World} (h : Below B a b) (k : Below b.heap.size b c) (hB : B ≤ b.heap.size) : Below B a c := h.trans (k.mono hB)

theorem nameVals_at : ∀ (k : Nat), k < 200 → (nameVals Op1.names)[k]? = some (nmV (Op1.names.getD k [])) := by
  have all : ∀ (l : List (List UInt8)) (k : Nat), k < l.length → (nameVals l)[k]? = some (nmV (l.getD k [])) := by
    intro l
    induction l with
    | nil => intro k hk; simp at hk
    | cons x l ih =>
      intro k hk
      cases k with
      | zero => rfl
      | succ k => simpa [nameVals] using ih k (by simpa using hk)
  exact fun k hk => all Op1.names k (by have : Op1.names.length = 200 := by kernel_rfl
                                        omega)
set_option maxRecDepth 100000 in
theorem rform_any (op : Int) (w : World) : Calls Tryd.prog 11 #[.int .i64 op] w fun e w' => e = .returned (isV op) ∧ Below w.heap.size w w' := by
  obtain ⟨⟨p, q, r⟩, hr, h1, -⟩ := findV_parts op
  dsimp only at h1
  have hV : isV op = .tuple #[.int .i64 (r : Nat), .bool (Op1.isOp op)] := by unfold isV; rw [h1]
  rw [hV]
  have hf := rfind_any op w
  rw [hr] at hf
  unfold rowV at hf
  generalize Op1.isOp op = is at *
  have H := hid hf
  clear hf hV hr h1
  go_enter Tryd.func11, Tryd.ntmps11
  go_wp2_with (go_at_call 39; refine H.out.mono ?_; rintro e w' ⟨rfl, hb⟩)
  go_ret2
  exact ⟨rfl, hb.alloc hb.size _⟩
set_option maxRecDepth 100000 in
theorem rname_any (op : Int) (w : World) : Calls Tryd.prog 18 #[.int .i64 op] w fun e w' => e = .returned (nmV (Op1.nameOf op)) ∧ Below w.heap.size w w' := by
  obtain ⟨⟨p, q, r⟩, hr, -, h1⟩ := findV_parts op
  dsimp only at h1
  rw [← h1]
  have hf := rfind_any op w
  rw [hr] at hf
  unfold rowV at hf
  unfold nmV
  generalize Op1.isOp op = is at *
  have H := hid hf
  clear hf hr h1
  go_enter Tryd.func18, Tryd.ntmps18
  go_wp2_with (go_at_call 39; refine H.out.mono ?_; rintro e w' ⟨rfl, hb⟩)
  go_ret
  exact ⟨rfl, hb.alloc hb.size _⟩
set_option maxRecDepth 100000 in
theorem rsize_any (op : Int) (w : World) : Calls Tryd.prog 13 #[.int .i64 op] w fun e w' => e = .returned (szV op) ∧ Below w.heap.size w w' := by
  have hf8 := Op1.formOf_le op
  have hV : szV op = if Op1.isOp op then .tuple #[.int .i64 (1 + (Op1.bh (Op1.formOf op) : Nat) : Int), .bool true] else .tuple #[.int .i64 0, .bool false] := by
    unfold szV Op1.szOf
    cases Op1.isOp op <;> simp
  have hform := rform_any op w
  have hb2 : Op1.bh (Op1.formOf op) ≤ 2 := (show ∀ k, k < 9 → Op1.bh k ≤ 2 by decide +kernel) _ (by omega)
  have hbeh := fun W => rbehind_any (Op1.formOf op) W hf8
  unfold isV at hform
  rw [hV]
  generalize Op1.bh (Op1.formOf op) = y at *
  generalize Op1.formOf op = x at *
  generalize Op1.isOp op = is at *
  clear hV
  have H := hid hform
  have H2 := hid hbeh
  clear hform hbeh
  cases is
  all_goals
    go_enter Tryd.func13, Tryd.ntmps13
    go_wp2_with (first | (go_at_call 11; refine H.out.mono ?_; rintro e w' ⟨rfl, hb⟩) | (go_at_call 40; refine (H2.out _).mono ?_; rintro e w' ⟨rfl, rfl⟩))
    go_ret2
    exact ⟨by simp, hb⟩
set_option maxRecDepth 100000 in
theorem name_any (op : Int) (w : World) (ht : Tabs w) : Calls Tryd.prog 17 #[.int .i64 op] w fun e w' => e = .returned (nmV (Op1.nameOf op)) ∧ Below w.heap.size w w' := by
  have hform := form_any op w ht
  unfold isV at hform
  cases his : Op1.isOp op with
  | false =>
    rw [nameOf_gap his]
    rw [his] at hform
    generalize Op1.formOf op = x at *
    have H := hid hform
    clear hform his
    unfold nmV
    go_enter Tryd.func17, Tryd.ntmps17
    go_wp2_with (go_at_call 10; refine H.out.mono ?_; rintro e w' ⟨rfl, rfl⟩)
    go_ret
    exact ⟨rfl, Below.refl _ _⟩
  | true =>
    have hr := Op1.isOp_range his
    obtain ⟨k, rfl⟩ := Int.eq_ofNat_of_zero_le hr.1
    have hk : k < 200 := by omega
    have hn : Op1.nameOf (k : Int) = Op1.names.getD k [] := by unfold Op1.nameOf; rw [if_pos hr]; rfl
    rw [hn]
    rw [his] at hform
    generalize Op1.formOf k = x at *
    have H := hid hform
    clear hform his hn hr ht
    have hz : ∀ W, (zeroValue 66).run Tryd.prog W = .ok (.agg zeroCells) W := fun _ => by kernel_rfl
    obtain ⟨C, hC⟩ : ∃ C, C = (nameVals Op1.names).toArray := ⟨_, rfl⟩
    have hCk : C[k]? = some (nmV (Op1.names.getD k [])) := by rw [hC]; simpa using nameVals_at k hk
    have hnm := names_any w
    have hns : namesVal = .agg C := by rw [hC]; rfl
    have hs1 : (Tryd.prog.info? 66).map (·.size) = some C.size := by rw [hC]; kernel_rfl
    have hs2 : zeroCells.size = C.size := by rw [hC]; kernel_rfl
    have hs3 : C.all (·.oneCell') = true := by rw [hC]; kernel_rfl
    rw [← hC, hns] at hnm
    have Hnm := hid hnm
    have Hs1 := hid hs1
    have Hs2 := hid hs2
    have Hs3 := hid hs3
    clear hnm hns hs1 hs2 hs3 hC
    generalize nmV (Op1.names.getD k []) = nv at *
    go_enter Tryd.func17, Tryd.ntmps17
    go_wp2_with (first
      | (go_at_call 10; refine H.out.mono ?_; rintro e w' ⟨rfl, rfl⟩)
      | (go_at_call 41; refine Hnm.out.mono ?_; rintro e w' ⟨rfl, rfl⟩)
      | (refine wpList_store_row rfl 66 (.tmp 5) (.tmp 13) rfl (w.heap.size + 1) C rfl rfl 66 zeroCells (by simpa using heap_alloc_last (w.alloc (.cells C 66)) (.cells zeroCells 66)) Hs1.out Hs2.out Hs3.out ?_; rw [show w.heap.size + 1 = (w.alloc (.cells C 66)).heap.size from by simp, World.setRow_alloc_new]; rw [show (w.alloc (.cells C 66)).heap.size = w.heap.size + 1 from by simp]))
    go_ret
    exact ⟨rfl, ((Below.refl _ _).alloc (Nat.le_refl _) _).alloc (by simp) _⟩

/-- What Find answers. -/
def numV (s : List UInt8) : Value := match Op1.numOf s with
  | some k => .tuple #[.int .i64 (k : Int), .bool true]
  | none => .tuple #[.int .i64 0, .bool false]
theorem numV_names {s : List UInt8} {k : Nat} (hk : k < 200) (h : (Op1.names.getD k [] == s) = true) (h2 : (Op1.names.getD k [] == []) = false)
    (hall : ∀ j, j < k → (Op1.names.getD j [] == s && s != []) = false) : numV s = .tuple #[.int .i64 (k : Int), .bool true] := by
  unfold numV
  have hp : (Op1.names.getD k [] == s && s != []) = true := by
    have e : Op1.names.getD k [] = s := by simpa using h
    rw [e] at h2 ⊢
    simpa using h2
  rw [← Op1.find_names, Op1.find_range hk hp hall]
theorem numV_names_none {s : List UInt8} (hall : ∀ j, j < 200 → (Op1.names.getD j [] == s && s != []) = false) : numV s = .tuple #[.int .i64 0, .bool false] := by
  unfold numV
  rw [← Op1.find_names, Op1.find_range_none hall]
set_option maxRecDepth 100000 in
theorem rfindname_any (s : ByteArray) (w : World) : Calls Tryd.prog 15 #[.string s] w fun e w' => e = .returned (numV s.toList) ∧ Below w.heap.size w w' := by
  have hlen : Op1.rows.length = 121 := by kernel_rfl
  go_enter Tryd.func15, Tryd.ntmps15
  go_wp2_with (go_at_call 42; refine (table_any _).mono ?_; rintro e w' ⟨rfl, rfl⟩)
  go_loop [5] (fun i => ∃ k : Nat, k ≤ 121 ∧ i = .int .i64 k ∧ (∀ j r, j < k → Op1.rows[j]? = some r → (r.2.1 == s.toList) = false)) (fun i => 121 - (intOf i).toNat)
  case atStart => exact ⟨0, by omega, rfl, fun j r hj => by omega⟩
  case round =>
    obtain ⟨k, hk, rfl, hall⟩ := hrel
    have Hall := hid hall
    clear hall
    by_cases hlt : k < 121
    · obtain ⟨r, hr⟩ : ∃ r, Op1.rows[k]? = some r := ⟨Op1.rows[k]'(by omega), List.getElem?_eq_getElem (by omega)⟩
      clear hlen
      obtain ⟨h0, h1, -⟩ := table_at w k r hr
      have H := hid hr
      clear hr
      cases hb : (r.2.1 == s.toList) with
      | true =>
        have Hb := hid hb
        go_wp2
        go_ret2
        refine ⟨?_, (Below.refl _ _).alloc (Nat.le_refl _) _⟩
        unfold numV Op1.numOf
        rw [Op1.find_at H.out Hb.out Hall.out]
        rfl
      | false =>
        have Hb := hid hb
        go_wp2
        go_round
        case rel => exact ⟨k + 1, by omega, by go_num, fun j r' hj hr' => by
          by_cases hjk : j < k
          · exact Hall.out j r' hjk hr'
          · obtain rfl : j = k := by omega
            rw [H.out] at hr'
            obtain rfl := Option.some.inj hr'
            exact Hb.out⟩
        case measure => simp [intOf]; omega
    · obtain rfl : k = 121 := by omega
      have Hlen := hid hlen
      clear hlen
      go_wp2
      go_ret2
      refine ⟨?_, (Below.refl _ _).alloc (Nat.le_refl _) _⟩
      unfold numV Op1.numOf
      rw [Op1.find_end (fun j y hj => Hall.out j y (by have := Hlen.out; omega))]
      rfl
set_option maxRecDepth 100000 in
theorem findname_any (s : ByteArray) (w : World) : Calls Tryd.prog 14 #[.string s] w fun e w' => e = .returned (numV s.toList) ∧ Below w.heap.size w w' := by
  obtain ⟨C, hC⟩ : ∃ C, C = (nameVals Op1.names).toArray := ⟨_, rfl⟩
  have hCk : ∀ k, k < 200 → C[k]? = some (nmV (Op1.names.getD k [])) := fun k hk => by rw [hC]; simpa using nameVals_at k hk
  have hnm := names_any w
  have hns : namesVal = .agg C := by rw [hC]; rfl
  rw [← hC, hns] at hnm
  have Hnm := hid hnm
  have HCk := hid hCk
  clear hnm hns hC hCk
  go_enter Tryd.func14, Tryd.ntmps14
  go_wp2_with (go_at_call 41; refine Hnm.out.mono ?_; rintro e w' ⟨rfl, rfl⟩)
  go_loop [7] (fun i => ∃ k : Nat, k ≤ 200 ∧ i = .int .i64 k ∧ (∀ j, j < k → (Op1.names.getD j [] == s.toList && s.toList != []) = false)) (fun i => 200 - (intOf i).toNat)
  case atStart => exact ⟨0, by omega, rfl, fun j hj => by omega⟩
  case round =>
    obtain ⟨k, hk, rfl, hall⟩ := hrel
    have Hall := hid hall
    clear hall
    by_cases hlt : k < 200
    · have hx := fun W => Kit.run_index_array (P := Tryd.prog) (t := 66) (e := 9) (n := 200) (k := .i64) (d := .string) (by kernel_rfl) hlt (by kernel_rfl) rfl (by kernel_rfl) (HCk.out k hlt) W
      unfold nmV at hx
      obtain ⟨nk, hnk⟩ : ∃ nk, nk = Op1.names.getD k [] := ⟨_, rfl⟩
      rw [← hnk] at hx
      have Hnk := hid hnk
      clear hnk
      cases hb : (nk == s.toList) with
      | true =>
        have Hb := hid hb
        cases hb2 : (nk == []) with
        | true =>
          obtain rfl : nk = [] := by simpa using hb2
          clear hb2
          go_wp2
          go_round
          case rel => exact ⟨k + 1, by omega, by go_num, fun j hj => by
            by_cases hjk : j < k
            · exact Hall.out j hjk
            · have : s.toList = [] := (by simpa using Hb.out : [] = s.toList).symm
              rw [this]; simp⟩
          case measure => simp [intOf]; omega
        | false =>
          have Hb2 := hid hb2
          clear hb2
          have hb3 : nk.isEmpty = false := by
            have := Hb2.out
            cases nk <;> simp_all
          go_wp2
          go_ret2
          refine ⟨?_, (Below.refl _ _).alloc (Nat.le_refl _) _⟩
          rw [numV_names hlt (by rw [← Hnk.out]; exact Hb.out) (by rw [← Hnk.out]; exact Hb2.out) Hall.out]; rfl
      | false =>
        have Hb := hid hb
        go_wp2
        go_round
        case rel => exact ⟨k + 1, by omega, by go_num, fun j hj => by
          by_cases hjk : j < k
          · exact Hall.out j hjk
          · obtain rfl : j = k := by omega
            rw [← Hnk.out, Hb.out]; rfl⟩
        case measure => simp [intOf]; omega
    · obtain rfl : k = 200 := by omega
      go_wp2
      go_ret2
      refine ⟨?_, (Below.refl _ _).alloc (Nat.le_refl _) _⟩
      rw [numV_names_none Hall.out]; rfl
end Go.Proofs.YtihklojiionanaaDoor

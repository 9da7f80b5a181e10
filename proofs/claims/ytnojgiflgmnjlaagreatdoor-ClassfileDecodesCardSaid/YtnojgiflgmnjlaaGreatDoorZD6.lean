/- Own texts for the claim, part 6. -/
import Derived.Test.YtnojgiflgmnjlaaGreatDoorZD5
import Derived.Lib.AppendStr
set_option maxRecDepth 100000
namespace Go.Proofs.YtnojgiflgmnjlaaGreatDoor.L1
open Go.RowKit
set_option maxHeartbeats 1000000 in
theorem rone_f3 (b o n cap k c cp cq : Nat) (w : World) (hk : k + 1 + 2 ≤ n) (hn : n ≤ 140737488355328) (hc8 : c < 256) (hc : w.cell? ⟨b,o + k,none⟩ = some (.int .u8 c)) (hp8 : cp < 256) (hp : w.cell? ⟨b,o + (k + 1),none⟩ = some (.int .u8 cp)) (hq8 : cq < 256) (hq : w.cell? ⟨b,o + (k + 2),none⟩ = some (.int .u8 cq)) (hop : Op1.isOp c = true) (hf : Op1.formOf c = 3) :
  Calls Tryz.prog 195 #[.slice (some ⟨b,o,none⟩) n cap,.int .i64 k] w fun e w'=>e = .returned (oneV (⟨k,c,Op1.s16 (256 * cp + cq),0⟩,k + 1 + 2,0)) ∧ Below w.heap.size w w':=by
 unfold oneV insV
 have hform:=fun W=>rform_any c W
 unfold isV at hform
 rw [hop,hf] at hform
 have HForm:=hid hform
 have hbeh:=fun W=>rbehind_any 3 W (by omega)
 rw [show Op1.bh 3 = 2 by decide +kernel] at hbeh
 have HBeh:=hid hbeh
 have hlt:=World.block_lt_of_cell? w _ hc
 have hd : decide ((k : Int) < 0) = false:=by simp
 have hd2 : decide ((n : Int) - (k : Int) - 1 < (2 : Int)) = false:=by simp;omega
 have hk1 : (k : Int) < n:=by omega
 have hk2 : (k : Int) + 1 < n:=by omega
 have hk3 : (k : Int) + 2 < n:=by omega
 have hsg:=fun W=>signed16 (256 * cp + cq) W (by omega)
 rw [show ((256 * cp + cq : Nat) : Int) = 256 * (cp : Int) + (cq : Int) by omega] at hsg
 have HSg:=hid hsg
 obtain ⟨hlo,hhi⟩:=s16_lo (256 * cp + cq) (by omega)
 obtain ⟨z,hz⟩ : ∃ z,z = Op1.s16 (256 * cp + cq):=⟨_,rfl⟩
 rw [← hz] at hlo hhi HSg
 rw [← hz]
 clear hsg hz
 clear hform hop hbeh hf
 go_enter Tryz.func195,Tryz.ntmps195
 go_wp2_with (first|(go_at_call 196;refine (HForm.out _).mono ?_;rintro e w1 ⟨rfl,hb1⟩;obtain ⟨hcc,hff⟩:=bcell hb1;have hz1:=hb1.size;simp only [World.size_alloc] at hz1;have hz2 : w.heap.size + 1 < w1.heap.size:=(by omega);have hz3 : w.heap.size < w1.heap.size:=(by omega);obtain ⟨q0,q1,q2,q3,r0,r1,r2,r3⟩:=ro_cells hb1;(try (have hp1:=(ro_old hb1 hlt _).trans hp));(try (have hq1:=(ro_old hb1 hlt _).trans hq)))|(go_at_call 207;refine (HBeh.out _).mono ?_;rintro e w3 ⟨rfl,rfl⟩)|(go_at_call 208;refine (HSg.out _).mono ?_;rintro e w3 ⟨rfl,rfl⟩))
 have hb':=(belows (B:=w.heap.size) (a:=w) BLw hb1 (by simp only [World.size_alloc];omega))
 exact bodyPost_ret (v:=.tuple #[.agg #[.int .i64 k,.int .i64 c,.int .i64 z,.int .i64 (0)],.int .i64 (k + 1 + 2),.int .i64 0]) (by simp [results,Tryz.results195,go_sem,q0,q1,q2,q3]) rfl ⟨rfl,BLw⟩
set_option maxHeartbeats 1000000 in
theorem rone_f5 (b o n cap k c cp cq : Nat) (w : World) (hk : k + 1 + 2 ≤ n) (hn : n ≤ 140737488355328) (hc8 : c < 256) (hc : w.cell? ⟨b,o + k,none⟩ = some (.int .u8 c)) (hp8 : cp < 256) (hp : w.cell? ⟨b,o + (k + 1),none⟩ = some (.int .u8 cp)) (hq8 : cq < 256) (hq : w.cell? ⟨b,o + (k + 2),none⟩ = some (.int .u8 cq)) (hop : Op1.isOp c = true) (hf : Op1.formOf c = 5) :
  Calls Tryz.prog 195 #[.slice (some ⟨b,o,none⟩) n cap,.int .i64 k] w fun e w'=>e = .returned (oneV (⟨k,c,256 * (cp : Int) + (cq : Int),0⟩,k + 1 + 2,0)) ∧ Below w.heap.size w w':=by
 unfold oneV insV
 have hform:=fun W=>rform_any c W
 unfold isV at hform
 rw [hop,hf] at hform
 have HForm:=hid hform
 have hbeh:=fun W=>rbehind_any 5 W (by omega)
 rw [show Op1.bh 5 = 2 by decide +kernel] at hbeh
 have HBeh:=hid hbeh
 have hlt:=World.block_lt_of_cell? w _ hc
 have hd : decide ((k : Int) < 0) = false:=by simp
 have hd2 : decide ((n : Int) - (k : Int) - 1 < (2 : Int)) = false:=by simp;omega
 have hk1 : (k : Int) < n:=by omega
 have hk2 : (k : Int) + 1 < n:=by omega
 have hk3 : (k : Int) + 2 < n:=by omega
 clear hform hop hbeh hf
 go_enter Tryz.func195,Tryz.ntmps195
 go_wp2_with (first|(go_at_call 196;refine (HForm.out _).mono ?_;rintro e w1 ⟨rfl,hb1⟩;obtain ⟨hcc,hff⟩:=bcell hb1;have hz1:=hb1.size;simp only [World.size_alloc] at hz1;have hz2 : w.heap.size + 1 < w1.heap.size:=(by omega);have hz3 : w.heap.size < w1.heap.size:=(by omega);obtain ⟨q0,q1,q2,q3,r0,r1,r2,r3⟩:=ro_cells hb1;(try (have hp1:=(ro_old hb1 hlt _).trans hp));(try (have hq1:=(ro_old hb1 hlt _).trans hq)))|(go_at_call 207;refine (HBeh.out _).mono ?_;rintro e w3 ⟨rfl,rfl⟩)|(go_at_call 208;refine (HSg.out _).mono ?_;rintro e w3 ⟨rfl,rfl⟩))
 have hb':=(belows (B:=w.heap.size) (a:=w) BLw hb1 (by simp only [World.size_alloc];omega))
 exact bodyPost_ret (v:=.tuple #[.agg #[.int .i64 k,.int .i64 c,.int .i64 (256 * (cp : Int) + (cq : Int)),.int .i64 (0)],.int .i64 (k + 1 + 2),.int .i64 0]) (by simp [results,Tryz.results195,go_sem,q0,q1,q2,q3]) rfl ⟨rfl,BLw⟩
set_option maxHeartbeats 1000000 in
theorem rone_f6 (b o n cap k c cp cq : Nat) (w : World) (hk : k + 1 + 2 ≤ n) (hn : n ≤ 140737488355328) (hc8 : c < 256) (hc : w.cell? ⟨b,o + k,none⟩ = some (.int .u8 c)) (hp8 : cp < 256) (hp : w.cell? ⟨b,o + (k + 1),none⟩ = some (.int .u8 cp)) (hq8 : cq < 256) (hq : w.cell? ⟨b,o + (k + 2),none⟩ = some (.int .u8 cq)) (hop : Op1.isOp c = true) (hf : Op1.formOf c = 6) :
  Calls Tryz.prog 195 #[.slice (some ⟨b,o,none⟩) n cap,.int .i64 k] w fun e w'=>e = .returned (oneV (⟨k,c,(k : Int) + Op1.s16 (256 * cp + cq),0⟩,k + 1 + 2,0)) ∧ Below w.heap.size w w':=by
 unfold oneV insV
 have hform:=fun W=>rform_any c W
 unfold isV at hform
 rw [hop,hf] at hform
 have HForm:=hid hform
 have hbeh:=fun W=>rbehind_any 6 W (by omega)
 rw [show Op1.bh 6 = 2 by decide +kernel] at hbeh
 have HBeh:=hid hbeh
 have hlt:=World.block_lt_of_cell? w _ hc
 have hd : decide ((k : Int) < 0) = false:=by simp
 have hd2 : decide ((n : Int) - (k : Int) - 1 < (2 : Int)) = false:=by simp;omega
 have hk1 : (k : Int) < n:=by omega
 have hk2 : (k : Int) + 1 < n:=by omega
 have hk3 : (k : Int) + 2 < n:=by omega
 have hsg:=fun W=>signed16 (256 * cp + cq) W (by omega)
 rw [show ((256 * cp + cq : Nat) : Int) = 256 * (cp : Int) + (cq : Int) by omega] at hsg
 have HSg:=hid hsg
 obtain ⟨hlo,hhi⟩:=s16_lo (256 * cp + cq) (by omega)
 obtain ⟨z,hz⟩ : ∃ z,z = Op1.s16 (256 * cp + cq):=⟨_,rfl⟩
 rw [← hz] at hlo hhi HSg
 rw [← hz]
 clear hsg hz
 clear hform hop hbeh hf
 go_enter Tryz.func195,Tryz.ntmps195
 go_wp2_with (first|(go_at_call 196;refine (HForm.out _).mono ?_;rintro e w1 ⟨rfl,hb1⟩;obtain ⟨hcc,hff⟩:=bcell hb1;have hz1:=hb1.size;simp only [World.size_alloc] at hz1;have hz2 : w.heap.size + 1 < w1.heap.size:=(by omega);have hz3 : w.heap.size < w1.heap.size:=(by omega);obtain ⟨q0,q1,q2,q3,r0,r1,r2,r3⟩:=ro_cells hb1;(try (have hp1:=(ro_old hb1 hlt _).trans hp));(try (have hq1:=(ro_old hb1 hlt _).trans hq)))|(go_at_call 207;refine (HBeh.out _).mono ?_;rintro e w3 ⟨rfl,rfl⟩)|(go_at_call 208;refine (HSg.out _).mono ?_;rintro e w3 ⟨rfl,rfl⟩))
 have hb':=(belows (B:=w.heap.size) (a:=w) BLw hb1 (by simp only [World.size_alloc];omega))
 exact bodyPost_ret (v:=.tuple #[.agg #[.int .i64 k,.int .i64 c,.int .i64 ((k : Int) + z),.int .i64 (0)],.int .i64 (k + 1 + 2),.int .i64 0]) (by simp [results,Tryz.results195,go_sem,q0,q1,q2,q3]) rfl ⟨rfl,BLw⟩
set_option maxHeartbeats 1000000 in
theorem rone_f7 (b o n cap k c cp cq : Nat) (w : World) (hk : k + 1 + 2 ≤ n) (hn : n ≤ 140737488355328) (hc8 : c < 256) (hc : w.cell? ⟨b,o + k,none⟩ = some (.int .u8 c)) (hp8 : cp < 256) (hp : w.cell? ⟨b,o + (k + 1),none⟩ = some (.int .u8 cp)) (hq8 : cq < 256) (hq : w.cell? ⟨b,o + (k + 2),none⟩ = some (.int .u8 cq)) (hop : Op1.isOp c = true) (hf : Op1.formOf c = 7) :
  Calls Tryz.prog 195 #[.slice (some ⟨b,o,none⟩) n cap,.int .i64 k] w fun e w'=>e = .returned (oneV (⟨k,c,cp,Op1.s8 cq⟩,k + 1 + 2,0)) ∧ Below w.heap.size w w':=by
 unfold oneV insV
 have hform:=fun W=>rform_any c W
 unfold isV at hform
 rw [hop,hf] at hform
 have HForm:=hid hform
 have hbeh:=fun W=>rbehind_any 7 W (by omega)
 rw [show Op1.bh 7 = 2 by decide +kernel] at hbeh
 have HBeh:=hid hbeh
 have hlt:=World.block_lt_of_cell? w _ hc
 have hd : decide ((k : Int) < 0) = false:=by simp
 have hd2 : decide ((n : Int) - (k : Int) - 1 < (2 : Int)) = false:=by simp;omega
 have hk1 : (k : Int) < n:=by omega
 have hk2 : (k : Int) + 1 < n:=by omega
 have hk3 : (k : Int) + 2 < n:=by omega
 have HSg:=hid (fun W=>signed8 cq W hq8)
 clear hform hop hbeh hf
 go_enter Tryz.func195,Tryz.ntmps195
 go_wp2_with (first|(go_at_call 196;refine (HForm.out _).mono ?_;rintro e w1 ⟨rfl,hb1⟩;obtain ⟨hcc,hff⟩:=bcell hb1;have hz1:=hb1.size;simp only [World.size_alloc] at hz1;have hz2 : w.heap.size + 1 < w1.heap.size:=(by omega);have hz3 : w.heap.size < w1.heap.size:=(by omega);obtain ⟨q0,q1,q2,q3,r0,r1,r2,r3⟩:=ro_cells hb1;(try (have hp1:=(ro_old hb1 hlt _).trans hp));(try (have hq1:=(ro_old hb1 hlt _).trans hq)))|(go_at_call 207;refine (HBeh.out _).mono ?_;rintro e w3 ⟨rfl,rfl⟩)|(go_at_call 208;refine (HSg.out _).mono ?_;rintro e w3 ⟨rfl,rfl⟩))
 have hb':=(belows (B:=w.heap.size) (a:=w) BLw hb1 (by simp only [World.size_alloc];omega))
 exact bodyPost_ret (v:=.tuple #[.agg #[.int .i64 k,.int .i64 c,.int .i64 (cp),.int .i64 (Op1.s8 cq)],.int .i64 (k + 1 + 2),.int .i64 0]) (by simp [results,Tryz.results195,go_sem,q0,q1,q2,q3]) rfl ⟨rfl,BLw⟩
set_option maxHeartbeats 1000000 in
theorem rone_f8a (b o n cap k c cp : Nat) (w : World) (hk : k + 1 + 1 ≤ n) (hn : n ≤ 140737488355328) (hc8 : c < 256) (hc : w.cell? ⟨b,o + k,none⟩ = some (.int .u8 c)) (hp8 : cp < 256) (hp : w.cell? ⟨b,o + (k + 1),none⟩ = some (.int .u8 cp)) (hop : Op1.isOp c = true) (hf : Op1.formOf c = 8) (h10 : cp = 10) :
  Calls Tryz.prog 195 #[.slice (some ⟨b,o,none⟩) n cap,.int .i64 k] w fun e w'=>e = .returned (oneV (⟨k,c,((10 : Nat) : Int),0⟩,k + 1 + 1,0)) ∧ Below w.heap.size w w':=by
 unfold oneV insV
 have hform:=fun W=>rform_any c W
 unfold isV at hform
 rw [hop,hf] at hform
 have HForm:=hid hform
 have hbeh:=fun W=>rbehind_any 8 W (by omega)
 rw [show Op1.bh 8 = 1 by decide +kernel] at hbeh
 have HBeh:=hid hbeh
 have hlt:=World.block_lt_of_cell? w _ hc
 have hd : decide ((k : Int) < 0) = false:=by simp
 have hd2 : decide ((n : Int) - (k : Int) - 1 < (1 : Int)) = false:=by simp;omega
 have hk1 : (k : Int) < n:=by omega
 have hk2 : (k : Int) + 1 < n:=by omega
 subst h10
 clear hform hop hbeh hf
 go_enter Tryz.func195,Tryz.ntmps195
 go_wp2_with (first|(go_at_call 196;refine (HForm.out _).mono ?_;rintro e w1 ⟨rfl,hb1⟩;obtain ⟨hcc,hff⟩:=bcell hb1;have hz1:=hb1.size;simp only [World.size_alloc] at hz1;have hz2 : w.heap.size + 1 < w1.heap.size:=(by omega);have hz3 : w.heap.size < w1.heap.size:=(by omega);obtain ⟨q0,q1,q2,q3,r0,r1,r2,r3⟩:=ro_cells hb1;(try (have hp1:=(ro_old hb1 hlt _).trans hp));(try (have hq1:=(ro_old hb1 hlt _).trans hq)))|(go_at_call 207;refine (HBeh.out _).mono ?_;rintro e w3 ⟨rfl,rfl⟩)|(go_at_call 208;refine (HSg.out _).mono ?_;rintro e w3 ⟨rfl,rfl⟩))
 have hb':=(belows (B:=w.heap.size) (a:=w) BLw hb1 (by simp only [World.size_alloc];omega))
 exact bodyPost_ret (v:=.tuple #[.agg #[.int .i64 k,.int .i64 c,.int .i64 (((10 : Nat) : Int)),.int .i64 (0)],.int .i64 (k + 1 + 1),.int .i64 0]) (by simp [results,Tryz.results195,go_sem,q0,q1,q2,q3]) rfl ⟨rfl,BLw⟩
set_option maxHeartbeats 1000000 in
theorem rone_f8b (b o n cap k c cp : Nat) (w : World) (hk : k + 1 + 1 ≤ n) (hn : n ≤ 140737488355328) (hc8 : c < 256) (hc : w.cell? ⟨b,o + k,none⟩ = some (.int .u8 c)) (hp8 : cp < 256) (hp : w.cell? ⟨b,o + (k + 1),none⟩ = some (.int .u8 cp)) (hop : Op1.isOp c = true) (hf : Op1.formOf c = 8) (h11 : cp = 11) :
  Calls Tryz.prog 195 #[.slice (some ⟨b,o,none⟩) n cap,.int .i64 k] w fun e w'=>e = .returned (oneV (⟨k,c,((11 : Nat) : Int),0⟩,k + 1 + 1,0)) ∧ Below w.heap.size w w':=by
 unfold oneV insV
 have hform:=fun W=>rform_any c W
 unfold isV at hform
 rw [hop,hf] at hform
 have HForm:=hid hform
 have hbeh:=fun W=>rbehind_any 8 W (by omega)
 rw [show Op1.bh 8 = 1 by decide +kernel] at hbeh
 have HBeh:=hid hbeh
 have hlt:=World.block_lt_of_cell? w _ hc
 have hd : decide ((k : Int) < 0) = false:=by simp
 have hd2 : decide ((n : Int) - (k : Int) - 1 < (1 : Int)) = false:=by simp;omega
 have hk1 : (k : Int) < n:=by omega
 have hk2 : (k : Int) + 1 < n:=by omega
 subst h11
 clear hform hop hbeh hf
 go_enter Tryz.func195,Tryz.ntmps195
 go_wp2_with (first|(go_at_call 196;refine (HForm.out _).mono ?_;rintro e w1 ⟨rfl,hb1⟩;obtain ⟨hcc,hff⟩:=bcell hb1;have hz1:=hb1.size;simp only [World.size_alloc] at hz1;have hz2 : w.heap.size + 1 < w1.heap.size:=(by omega);have hz3 : w.heap.size < w1.heap.size:=(by omega);obtain ⟨q0,q1,q2,q3,r0,r1,r2,r3⟩:=ro_cells hb1;(try (have hp1:=(ro_old hb1 hlt _).trans hp));(try (have hq1:=(ro_old hb1 hlt _).trans hq)))|(go_at_call 207;refine (HBeh.out _).mono ?_;rintro e w3 ⟨rfl,rfl⟩)|(go_at_call 208;refine (HSg.out _).mono ?_;rintro e w3 ⟨rfl,rfl⟩))
 have hb':=(belows (B:=w.heap.size) (a:=w) BLw hb1 (by simp only [World.size_alloc];omega))
 exact bodyPost_ret (v:=.tuple #[.agg #[.int .i64 k,.int .i64 c,.int .i64 (((11 : Nat) : Int)),.int .i64 (0)],.int .i64 (k + 1 + 1),.int .i64 0]) (by simp [results,Tryz.results195,go_sem,q0,q1,q2,q3]) rfl ⟨rfl,BLw⟩
set_option maxHeartbeats 1000000 in
theorem rone_f8c (b o n cap k c cp : Nat) (w : World) (hk : k + 1 + 1 ≤ n) (hn : n ≤ 140737488355328) (hc8 : c < 256) (hc : w.cell? ⟨b,o + k,none⟩ = some (.int .u8 c)) (hp8 : cp < 256) (hp : w.cell? ⟨b,o + (k + 1),none⟩ = some (.int .u8 cp)) (hop : Op1.isOp c = true) (hf : Op1.formOf c = 8) (h10 : cp ≠ 10) (h11 : cp ≠ 11) :
  Calls Tryz.prog 195 #[.slice (some ⟨b,o,none⟩) n cap,.int .i64 k] w fun e w'=>e = .returned (oneV (Op1.noIns,0,13)) ∧ Below w.heap.size w w':=by
 unfold oneV insV Op1.noIns
 have hform:=fun W=>rform_any c W
 unfold isV at hform
 rw [hop,hf] at hform
 have HForm:=hid hform
 have hbeh:=fun W=>rbehind_any 8 W (by omega)
 rw [show Op1.bh 8 = 1 by decide +kernel] at hbeh
 have HBeh:=hid hbeh
 have hlt:=World.block_lt_of_cell? w _ hc
 have hd : decide ((k : Int) < 0) = false:=by simp
 have hd2 : decide ((n : Int) - (k : Int) - 1 < (1 : Int)) = false:=by simp;omega
 have hk1 : (k : Int) < n:=by omega
 have hk2 : (k : Int) + 1 < n:=by omega
 have g10 : ((cp : Int) != 10) = true:=by simp;omega
 have g11 : ((cp : Int) != 11) = true:=by simp;omega
 clear h10 h11
 clear hform hop hbeh hf
 go_enter Tryz.func195,Tryz.ntmps195
 go_wp2_with (first|(go_at_call 196;refine (HForm.out _).mono ?_;rintro e w1 ⟨rfl,hb1⟩;obtain ⟨hcc,hff⟩:=bcell hb1;have hz1:=hb1.size;simp only [World.size_alloc] at hz1;have hz2 : w.heap.size + 1 < w1.heap.size:=(by omega);have hz3 : w.heap.size < w1.heap.size:=(by omega);obtain ⟨q0,q1,q2,q3,r0,r1,r2,r3⟩:=ro_cells hb1;(try (have hp1:=(ro_old hb1 hlt _).trans hp));(try (have hq1:=(ro_old hb1 hlt _).trans hq)))|(go_at_call 207;refine (HBeh.out _).mono ?_;rintro e w3 ⟨rfl,rfl⟩)|(go_at_call 208;refine (HSg.out _).mono ?_;rintro e w3 ⟨rfl,rfl⟩))
 have hb':=(belows (B:=w.heap.size) (a:=w) BLw hb1 (by simp only [World.size_alloc];omega))
 exact bodyPost_ret (v:=.tuple #[.agg #[.int .i64 0,.int .i64 0,.int .i64 0,.int .i64 0],.int .i64 0,.int .i64 13]) (by simp [results,Tryz.results195,go_sem,q0,q1,q2,q3]) rfl ⟨rfl,BLw⟩
end Go.Proofs.YtnojgiflgmnjlaaGreatDoor.L1
namespace Go.Proofs.YtnojgiflgmnjlaaGreatDoor.L1
open Go.RowKit
theorem rone_any (bs : List UInt8) (v : Value) (p : Int) (w : World) (hb : IsB w v bs) :
  Calls Tryz.prog 195 #[v,.int .i64 p] w fun e w'=>e = .returned (oneV (Op1.one bs p)) ∧ Below w.heap.size w w':=by
 unfold Op1.one
 by_cases h0 : p < 0 ∨ (bs.length : Int) ≤ p
 ·rw [if_pos h0]
  obtain ⟨a,cap,rfl⟩:=hb.len
  exact rone_out a _ cap p w h0
 ·rw [if_neg h0]
  obtain ⟨k,rfl⟩:=Int.eq_ofNat_of_zero_le (show 0 ≤ p by omega)
  have hk : k < bs.length:=by omega
  have hn:=hb.1
  rcases hb.2 with ⟨rfl,-⟩|⟨b,o,cap,rfl,hcap,hlt,hc⟩
  ·simp at hk
  ·have hc0:=hc k hk
   simp only [Int.toNat_natCast]
   have h8:=Op1.at8_lt bs k
   by_cases hop : Op1.isOp (Op1.at8 bs k) = false
   ·rw [if_pos hop]
    exact rone_noop b o _ cap k _ w hk h8 hc0 hop
   ·rw [if_neg hop]
    have hop' : Op1.isOp (Op1.at8 bs k) = true:=by simpa using hop
    have hf8:=Op1.formOf_le (Op1.at8 bs k)
    obtain ⟨f,hf⟩ : ∃ f,f = Op1.formOf (Op1.at8 bs k):=⟨_,rfl⟩
    have hsz : Op1.szOf (Op1.at8 bs k) = 1 + Op1.bh f:=by unfold Op1.szOf;rw [hop',hf];rfl
    have hins : Op1.insAt bs k = ⟨k,Op1.at8 bs k,(Op1.abOf f k (Op1.at8 bs (k + 1)) (Op1.at8 bs (k + 2))).1,(Op1.abOf f k (Op1.at8 bs (k + 1)) (Op1.at8 bs (k + 2))).2⟩:=by unfold Op1.insAt;rw [hf]
    rw [← hf] at hf8
    rw [hsz,hins]
    by_cases hcut : (bs.length : Int) - k < ((1 + Op1.bh f : Nat) : Int)
    ·rw [if_pos hcut]
     exact rone_cut b o _ cap k _ f _ w hk hn h8 hc0 hop' hf.symm (by omega) rfl (by omega)
    ·rw [if_neg hcut]
     have h188 : Op1.at8 bs k = 188 ↔ f = 8:=by
      have hr:=(Op1.isOp_range hop').2
      rw [hf]
      exact (show ∀ k,k < 200 → (k = 188 ↔ Op1.formOf ((k : Nat) : Int) = 8) by decide +kernel) (Op1.at8 bs k) (by omega)
     simp only [h188]
     have h1:=fun h=>hc (k + 1) h
     have h2:=fun h=>hc (k + 2) h
     have p8:=Op1.at8_lt bs (k + 1)
     have q8:=Op1.at8_lt bs (k + 2)
     have all : f = 0 ∨ f = 1 ∨ f = 2 ∨ f = 3 ∨ f = 4 ∨ f = 5 ∨ f = 6 ∨ f = 7 ∨ f = 8:=by omega
     rcases all with rfl|rfl|rfl|rfl|rfl|rfl|rfl|rfl|rfl
     ·rw [show Op1.bh 0 = 0 by decide +kernel] at hcut ⊢
      rw [if_neg (by omega)]
      have:=rone_f0 b o _ cap k _ w (by omega) hn h8 hc0 hop' hf.symm
      simpa [Op1.abOf] using this
     ·rw [show Op1.bh 1 = 1 by decide +kernel] at hcut ⊢
      rw [if_neg (by omega)]
      have:=rone_f1 b o _ cap k _ _ w (by omega) hn h8 hc0 p8 (h1 (by omega)) hop' hf.symm
      simpa [Op1.abOf,Int.add_assoc] using this
     ·rw [show Op1.bh 2 = 1 by decide +kernel] at hcut ⊢
      rw [if_neg (by omega)]
      have:=rone_f2 b o _ cap k _ _ w (by omega) hn h8 hc0 p8 (h1 (by omega)) hop' hf.symm
      simpa [Op1.abOf,Int.add_assoc] using this
     ·rw [show Op1.bh 3 = 2 by decide +kernel] at hcut ⊢
      rw [if_neg (by omega)]
      have:=rone_f3 b o _ cap k _ _ _ w (by omega) hn h8 hc0 p8 (h1 (by omega)) q8 (h2 (by omega)) hop' hf.symm
      simpa [Op1.abOf,Int.add_assoc] using this
     ·rw [show Op1.bh 4 = 1 by decide +kernel] at hcut ⊢
      rw [if_neg (by omega)]
      have:=rone_f4 b o _ cap k _ _ w (by omega) hn h8 hc0 p8 (h1 (by omega)) hop' hf.symm
      simpa [Op1.abOf,Int.add_assoc] using this
     ·rw [show Op1.bh 5 = 2 by decide +kernel] at hcut ⊢
      rw [if_neg (by omega)]
      have:=rone_f5 b o _ cap k _ _ _ w (by omega) hn h8 hc0 p8 (h1 (by omega)) q8 (h2 (by omega)) hop' hf.symm
      simpa [Op1.abOf,Int.add_assoc] using this
     ·rw [show Op1.bh 6 = 2 by decide +kernel] at hcut ⊢
      rw [if_neg (by omega)]
      have:=rone_f6 b o _ cap k _ _ _ w (by omega) hn h8 hc0 p8 (h1 (by omega)) q8 (h2 (by omega)) hop' hf.symm
      simpa [Op1.abOf,Int.add_assoc] using this
     ·rw [show Op1.bh 7 = 2 by decide +kernel] at hcut ⊢
      rw [if_neg (by omega)]
      have:=rone_f7 b o _ cap k _ _ _ w (by omega) hn h8 hc0 p8 (h1 (by omega)) q8 (h2 (by omega)) hop' hf.symm
      simpa [Op1.abOf,Int.add_assoc] using this
     ·rw [show Op1.bh 8 = 1 by decide +kernel] at hcut ⊢
      by_cases e10 : Op1.at8 bs (k + 1) = 10
      ·rw [if_neg (by omega)]
       have:=rone_f8a b o _ cap k _ _ w (by omega) hn h8 hc0 p8 (h1 (by omega)) hop' hf.symm e10
       simpa [Op1.abOf,Int.add_assoc,e10] using this
      ·by_cases e11 : Op1.at8 bs (k + 1) = 11
       ·rw [if_neg (by omega)]
        have:=rone_f8b b o _ cap k _ _ w (by omega) hn h8 hc0 p8 (h1 (by omega)) hop' hf.symm e11
        simpa [Op1.abOf,Int.add_assoc,e11] using this
       ·rw [if_pos ⟨rfl,e10,e11⟩]
        exact rone_f8c b o _ cap k _ _ w (by omega) hn h8 hc0 p8 (h1 (by omega)) hop' hf.symm e10 e11
def RWalkPost (bs : List UInt8) (w : World) (e : Ending) (w' : World) : Prop :=
 ∃ (v : Value) (l : List Op1.Ins) (p : Nat) (er : Int),e = .returned (.tuple #[v,.int .i64 er]) ∧ Op1.Pre bs l p ∧ Op1.errAt bs p ≠ 0 ∧ (er = 0 ↔ p = bs.length) ∧ (er ≠ 0 → er = Op1.errAt bs p) ∧ OwnI w' w.heap.size v l ∧ Below w.heap.size w w'
set_option maxHeartbeats 400000 in
theorem rwalk_any (bs : List UInt8) (v : Value) (w : World) (hb : IsB w v bs) (hsz : bs.length * 32 ≤ 140737488355328) :
  Calls Tryz.prog 181 #[v] w (RWalkPost bs w):=by
 have HB:=hid hb
 have hlen:=hb.1
 obtain ⟨a,cap,hv⟩:=hb.len
 subst hv
 clear hb
 obtain ⟨i0,hi,hz0,hz1,hz2⟩:=info_parts A.info35
 go_enter Tryz.func181,Tryz.ntmps181
 go_wp2
 go_loopw [4,5] (fun v i wr=>∃ (l : List Op1.Ins) (p : Nat),i = .int .i64 p ∧ Op1.Pre bs l p ∧ OwnI wr w.heap.size v l ∧ Below w.heap.size w wr) (fun _ i _=>bs.length - (intOf i).toNat)
 case atStart=>exact ⟨[],0,rfl,.nil,nilI _ _,BLw⟩
 case round =>
  obtain ⟨l,p,rfl,hpre,hown,hbl⟩:=hrel
  have hpl:=hpre.le
  by_cases hlt : p < bs.length
  ·have H1:=hid (fun W (h : Below wr.heap.size wr W)=>rone_any bs _ p W ((HB.out.below hbl (Nat.le_refl _)).below h (Nat.le_refl _)))
   by_cases he : Op1.errAt bs p = 0
   ·obtain ⟨ho,hn1,hn2⟩:=Op1.one_ok he
    rw [ho] at H1
    obtain ⟨x,hx⟩ : ∃ x,x = Op1.insAt bs p:=⟨_,rfl⟩
    rw [← hx] at H1
    unfold oneV insV at H1
    have HE:=hid he
    have HPre:=hid hpre
    have HX:=hid hx
    have hlen2 : l.length ≤ bs.length:=by omega
    have hlen3 : l.length < bs.length:=by omega
    clear he ho hpre hx
    obtain ⟨q,hq⟩ : ∃ q,q = Op1.nxt bs p:=⟨_,rfl⟩
    rw [← hq] at H1 hn1 hn2
    have HQ:=hid hq
    clear hq
    go_wp2_with (first
     | (go_at_call 195;refine (H1.out _ BLw).mono ?_;rintro e w' ⟨rfl,hb⟩;have hown2:=Kit.owns_below hown hb (Nat.le_refl _))
     | (at_builtin;refine wpList_append_own _ rfl (.tmp 24) (.tmp 26) 187 rfl w.heap.size 192 i0 _ 4 32 Tryz.underlying187 hi hz0 hz1 hz2 rfl (by decide) _ l.length (insCells l) rfl ((hown2.alloc _).alloc _) ⟨w'.heap.size + 1,0,none⟩ 1 1 [.int .i64 x.p,.int .i64 x.op,.int .i64 x.a,.int .i64 x.b] rfl rfl ?c1 ?c2 ?c3 ?c4 ?c5 ?_))
    case c1 =>
     intro j u hj
     match j,hj with
     | 0,hj=>simp at hj;subst hj;simp [Addr.add,go_sem]
     | 1,hj=>simp at hj;subst hj;simp [Addr.add,go_sem]
     | 2,hj=>simp at hj;subst hj;simp [Addr.add,go_sem]
     | 3,hj=>simp at hj;subst hj;simp [Addr.add,go_sem]
    case c2=>intro u hu;simp at hu;rcases hu with rfl|rfl|rfl|rfl <;> rfl
    case c3=>unfold maxLen;omega
    case c4=>omega
    case c5=>have:=hbl.size;have:=hb.size;simp;omega
    ·intro v' w1 hown' hgrow _
     have hbw : Below w.heap.size w w1:=Kit.below_grown (belows hbl (hb.mono (Nat.le_refl _)) hbl.size |>.alloc (by have:=hbl.size;have:=hb.size;omega) _ |>.alloc (by have:=hbl.size;have:=hb.size;simp;omega) _) hgrow (by have:=hbl.size;have:=hb.size;simp;omega) (Kit.own_base hown)
     have hown3 : OwnI w1 w.heap.size v' (l ++ [x]):=by
      unfold OwnI
      rw [insCells_snoc]
      simpa [insC] using hown'
     clear hown' hgrow hown hown2 hb hbl
     go_wp2
     go_roundw
     case rel=>exact ⟨l ++ [x],q,rfl,by rw [HX.out,HQ.out];exact HPre.out.snoc HE.out,hown3,hbw⟩
     case measure=>simp [intOf];omega
   ·have ho:=Op1.one_err he
    rw [ho] at H1
    have hb1 : (Op1.errAt bs p != 0) = true:=by simpa using he
    unfold oneV insV Op1.noIns at H1
    obtain ⟨er,her⟩ : ∃ er,er = Op1.errAt bs p:=⟨_,rfl⟩
    rw [← her] at H1 hb1
    have HF : Hid (Op1.Pre bs l p ∧ Op1.errAt bs p ≠ 0 ∧ (er = 0 ↔ p = bs.length) ∧ (er ≠ 0 → er = Op1.errAt bs p)):=⟨hpre,he,⟨fun h=>absurd (her ▸ h) he,fun h=>by omega⟩,fun _=>her⟩
    clear he ho hpre her
    go_wp2_with (go_at_call 195;refine (H1.out _ BLw).mono ?_;rintro e w' ⟨rfl,hb⟩)
    go_ret2
    have hbw:=belows hbl hb hbl.size
    have hz1:=hbl.size
    have hz2:=hb.size
    exact ⟨_,_,_,_,rfl,HF.out.1,HF.out.2.1,HF.out.2.2.1,HF.out.2.2.2,(Kit.owns_below hown hb (Nat.le_refl _)).alloc _,BLw⟩
  ·have hend : p = bs.length:=by omega
   subst hend
   have HPre:=hid hpre
   clear hpre
   go_wp2
   go_ret2
   exact ⟨_,_,_,_,rfl,HPre.out,by rw [Op1.errAt_end (Nat.le_refl _)];decide,⟨fun _=>rfl,fun _=>rfl⟩,fun h=>absurd rfl h,hown,hbl⟩
end Go.Proofs.YtnojgiflgmnjlaaGreatDoor.L1
namespace Go.Proofs.YtnojgiflgmnjlaaGreatDoor.L1
open Go.RowKit
set_option maxHeartbeats 1000000 in
theorem rdecode_any (bs : List UInt8) (v : Value) (w : World) (hb : IsB w v bs) :
  Calls Tryz.prog 159 #[v] w (DecPost bs w):=by
 have HB:=hid hb
 have hlen:=hb.1
 obtain ⟨a,cap,hv⟩:=hb.len
 subst hv
 clear hb
 by_cases h1 : 4096 < bs.length
 ·have hd : decide (4096 < (bs.length : Int)) = true:=by simp;omega
  go_enter Tryz.func159,Tryz.ntmps159
  go_wp2
  go_ret2
  exact ⟨_,_,_,rfl,.long h1,nilI _ _,BLw⟩
 ·have hd : decide (4096 < (bs.length : Int)) = false:=by simp;omega
  by_cases h2 : bs.length = 0
  ·have hd2 : ((bs.length : Int) == 0) = true:=by rw [beq_iff_eq];omega
   have H2:=hid h2
   clear h2
   go_enter Tryz.func159,Tryz.ntmps159
   go_wp2
   go_ret2
   exact ⟨_,_,_,rfl,.none H2.out,nilI _ _,BLw⟩
  ·have hd2 : ((bs.length : Int) == 0) = false:=by rw [beq_eq_false_iff_ne];omega
   have hle : bs.length ≤ 4096:=by omega
   have hpos : 0 < bs.length:=by omega
   clear h1 h2
   go_enter Tryz.func159,Tryz.ntmps159
   go_wp2_with fail
   refine (rwalk_any bs _ _ HB.out (by omega)).mono ?_
   rintro e w2 ⟨m,l,p,er,rfl,hpre,her,h0,h1,om,hbw⟩
   have hpl:=hpre.le
   have hll : l.length ≤ 4096:=by omega
   have HM:=hid (Kit.isS_of_owns om (by omega))
   have HO:=hid om
   obtain ⟨am,capm,hvm⟩:=HM.out.len
   subst hvm
   have hz2:=hbw.size
   by_cases hz : er = 0
   ·obtain rfl:=h0.1 hz
    subst hz
    have HP:=hid hpl.2.2
    have HPre:=hid hpre
    clear h0 h1 hpl hpre her om
    have hmk:=fun W=>run_make_row' (P:=Tryz.prog) 190 4 (.bool false) 1 (by kernel_rfl) (by kernel_rfl) rfl .i64 .i64 bs.length (by omega) (by omega) W
    obtain ⟨C0,hC0⟩ : ∃ C,C = madeCells #[Value.bool false] bs.length:=⟨_,rfl⟩
    rw [← hC0] at hmk
    have hC : ∀ i,i < bs.length → C0[i]? = some (.bool (hitB l 0 i)):=fun i hi=>by rw [hC0,made_at bs.length i hi];rfl
    have HC:=hid hC
    clear hC0 hC
    go_wp2
    go_loopw [7] (fun i wr=>∃ k : Nat,k ≤ l.length ∧ i = .int .i64 k ∧ Hid (∀ i,i < bs.length → wr.cell? ⟨w2.heap.size,i,none⟩ = some (.bool (hitB l k i))) ∧ (∀ i,wr.frozen? ⟨w2.heap.size,i,none⟩ = false) ∧ w2.heap.size < wr.heap.size ∧ Below w2.heap.size w2 wr) (fun i _=>l.length - (intOf i).toNat)
    case atStart =>
     refine ⟨0,by omega,rfl,fun i hi=>?_,fun i=>by simp [go_sem],by simp,BLw⟩
     rw [World.cell?_alloc_at _ _ _ _ rfl]
     exact HC.out i hi
    case round =>
     obtain ⟨k,hk,rfl,hcl,hfr,hsz,hbl⟩:=hrel
     clear HC hmk
     by_cases hlt : k < l.length
     ·obtain ⟨x,hx⟩ : ∃ x,l[k]? = some x:=⟨l[k],List.getElem?_eq_getElem hlt⟩
      obtain ⟨b,o,cap',hv,hb,c0,c1,c2,c3⟩:=ins_at (HM.out.below hbl (Nat.le_refl _)) hx
      obtain ⟨rfl,-,rfl⟩:=Value.slice.inj hv
      obtain ⟨xp,xop,xa,xb⟩:=x
      dsimp only at c0 c1 c2 c3
      have hpx:=HP.out _ (List.mem_of_getElem? hx)
      dsimp only at hpx
      obtain ⟨p,rfl⟩:=Int.eq_ofNat_of_zero_le hpx.1
      have hpn : p < bs.length:=by omega
      have hcp:=hcl.out p hpn
      generalize hitB l k p = old at hcp
      have HX:=hid hx
      have i1 : (k : Int) < l.length:=by omega
      clear hx hpx hv
      go_wp2
      go_roundw
      case rel =>
       refine ⟨k + 1,by omega,by go_num,fun i hi=>?_,fun i=>?_,by simp;omega,BLw⟩
       ·rw [hitB_succ HX.out]
        rw [Kit.cell_set (i:=p) (v:=.bool true) (hcl.out i hi)]
        by_cases hip : p = i
        ·subst hip;simp
        ·have : ((p : Int) == (i : Int)) = false:=by rw [beq_eq_false_iff_ne];omega
         rw [this,Bool.or_false,if_neg hip]
       ·rw [World.frozen?_setCell]
        exact hfr i
      case measure=>simp [intOf];omega
     ·obtain rfl : k = l.length:=by omega
      go_wp2
      obtain ⟨wo,rfl⟩ : ∃ wo : World,wo = wr:=⟨_,rfl⟩
      go_loopw [8] (fun i wr=>∃ k : Nat,k ≤ l.length ∧ i = .int .i64 k ∧ Hid (∀ i,i < bs.length → wr.cell? ⟨w2.heap.size,i,none⟩ = some (.bool (hitB l l.length i))) ∧ Hid ((l.take k).all (goodB l bs.length) = true) ∧ w2.heap.size < wr.heap.size ∧ Below w2.heap.size w2 wr) (fun i _=>l.length - (intOf i).toNat)
      case atStart=>exact ⟨0,by omega,rfl,hcl,rfl,hsz,hbl⟩
      case round =>
       obtain ⟨k,hk,rfl,hcl,hgd,hsz,hbl⟩:=hrel
       by_cases hlt : k < l.length
       ·obtain ⟨x,hx⟩ : ∃ x,l[k]? = some x:=⟨l[k],List.getElem?_eq_getElem hlt⟩
        obtain ⟨b,o,cap',hv,hb,c0,c1,c2,c3⟩:=ins_at (HM.out.below hbl (Nat.le_refl _)) hx
        obtain ⟨rfl,-,rfl⟩:=Value.slice.inj hv
        obtain ⟨xp,xop,xa,xb⟩:=x
        dsimp only at c0 c1 c2 c3
        have HX:=hid hx
        have HJ:=hid (fun W=>rjumps_any xop W)
        have HG : Hid (goodB l bs.length ⟨xp,xop,xa,xb⟩ = (!jB xop || (decide (0 ≤ xa) && decide (xa < (bs.length : Int)) && hitB l l.length xa))):=rfl
        have i1 : (k : Int) < l.length:=by omega
        have hbr : b < wr.heap.size:=by have:=hbl.size;omega
        clear hx hv
        generalize jB xop = J at *
        cases J with
        | false =>
         go_wp2_with (go_at_call 182;refine (HJ.out _).mono ?_;rintro e w5 ⟨rfl,hb5⟩;obtain ⟨hcc,hff⟩:=bcell hb5;have hz5:=hb5.size;have hblw:=belows hbl hb5 hbl.size;have hccw:=fun i=>hcc w2.heap.size i hsz)
         go_roundw
         case rel=>exact ⟨k + 1,by omega,by go_num,fun i hi=>(hccw i).trans (hcl.out i hi),all_next HX.out hgd.out (by rw [HG.out];rfl),by omega,hblw⟩
         case measure=>simp [intOf];omega
        | true =>
         by_cases h0 : xa < 0
         ·have hd : decide (xa < 0) = true:=by simpa using h0
          have hfin:=landB_bad HX.out (by (rw [HG.out];have : decide (0 ≤ xa) = false:=by simp;omega);rw [this];rfl)
          have HF:=hid hfin
          clear hfin
          go_wp2_with (go_at_call 182;refine (HJ.out _).mono ?_;rintro e w5 ⟨rfl,hb5⟩;obtain ⟨hcc,hff⟩:=bcell hb5;have hz5:=hb5.size;have hblw:=belows hbl hb5 hbl.size;have hccw:=fun i=>hcc w2.heap.size i hsz)
          go_ret2
          exact ⟨_,_,_,rfl,.jump hle hpos HPre.out HF.out,nilI _ _,belows hbw hblw hz2⟩
         ·have hd : decide (xa < 0) = false:=by simpa using h0
          obtain ⟨q,rfl⟩:=Int.eq_ofNat_of_zero_le (show 0 ≤ xa by omega)
          by_cases h1 : bs.length ≤ q
          ·have hd2 : decide ((bs.length : Int) ≤ (q : Int)) = true:=by simp;omega
           have hfin:=landB_bad HX.out (by (rw [HG.out];have : decide ((q : Int) < (bs.length : Int)) = false:=by simp;omega);rw [this];simp)
           have HF:=hid hfin
           clear hfin
           go_wp2_with (go_at_call 182;refine (HJ.out _).mono ?_;rintro e w5 ⟨rfl,hb5⟩;obtain ⟨hcc,hff⟩:=bcell hb5;have hz5:=hb5.size;have hblw:=belows hbl hb5 hbl.size;have hccw:=fun i=>hcc w2.heap.size i hsz)
           go_ret2
           exact ⟨_,_,_,rfl,.jump hle hpos HPre.out HF.out,nilI _ _,belows hbw hblw hz2⟩
          ·have hd2 : decide ((bs.length : Int) ≤ (q : Int)) = false:=by simp;omega
           have hqn : q < bs.length:=by omega
           have hqn' : (q : Int) < bs.length:=by omega
           have hcq:=hcl.out q hqn
           cases hq : hitB l l.length (q : Int) with
           | true =>
            rw [hq] at hcq
            have HQ:=hid hq
            clear hq
            go_wp2_with (go_at_call 182;refine (HJ.out _).mono ?_;rintro e w5 ⟨rfl,hb5⟩;obtain ⟨hcc,hff⟩:=bcell hb5;have hz5:=hb5.size;have hblw:=belows hbl hb5 hbl.size;have hccw:=fun i=>hcc w2.heap.size i hsz)
            go_roundw
            case rel=>exact ⟨k + 1,by omega,by go_num,fun i hi=>(hccw i).trans (hcl.out i hi),all_next HX.out hgd.out (by rw [HG.out,HQ.out];simp;omega),by omega,hblw⟩
            case measure=>simp [intOf];omega
           | false =>
            rw [hq] at hcq
            have hfin:=landB_bad HX.out (by rw [HG.out,hq];simp)
            have HF:=hid hfin
            clear hfin hq
            go_wp2_with (go_at_call 182;refine (HJ.out _).mono ?_;rintro e w5 ⟨rfl,hb5⟩;obtain ⟨hcc,hff⟩:=bcell hb5;have hz5:=hb5.size;have hblw:=belows hbl hb5 hbl.size;have hccw:=fun i=>hcc w2.heap.size i hsz)
            go_ret2
            exact ⟨_,_,_,rfl,.jump hle hpos HPre.out HF.out,nilI _ _,belows hbw hblw hz2⟩
       ·obtain rfl : k = l.length:=by omega
        have HF:=hid (Op1.DecOut.ok hle hpos HPre.out (landB_end hgd.out))
        go_wp2
        go_ret2
        exact ⟨_,_,_,rfl,HF.out,Kit.owns_below HO.out hbl (Nat.le_refl _),belows hbw hbl hz2⟩
   ·have hne : (er != 0) = true:=by simpa using hz
    have HBad:=hid (Op1.DecOut.bad hle hpre (by have:=hpl.1;have : ¬ p = bs.length:=fun h=>hz (h0.2 h);omega) her)
    rw [← h1 hz] at HBad
    clear h0 h1 hz hpl hpre her
    go_wp2
    go_ret2
    exact ⟨_,_,_,rfl,HBad.out,nilI _ _,BLw⟩
end Go.Proofs.YtnojgiflgmnjlaaGreatDoor.L1
namespace Go.Proofs.YtnojgiflgmnjlaaGreatDoor
open Go.RowKit
def hL (h : Cf.Hn) : List Value:=[.int .i64 h.f,.int .i64 h.t,.int .i64 h.a,.int .i64 h.y]
theorem hL_len (h : Cf.Hn) : (hL h).length = 4:=rfl
def MbR (w : World) (cs : List Value) (m : Cf.Mb) : Prop :=
 ∃ cv hv,cs = [.int .i64 m.ac,.int .i64 m.nm,.int .i64 m.ds,.int .i64 m.st,.int .i64 m.lc,cv,hv] ∧ L3.Bs w.heap.size w cv m.code ∧ Kit.IsS 4 w hv m.hs.length (m.hs.flatMap hL) ∧ m.code.length ≤ 140737488355328
theorem MbR.len {w : World} {cs : List Value} {m : Cf.Mb} (h : MbR w cs m) : cs.length = 7:=by obtain ⟨cv,hv,rfl,-⟩:=h;rfl
theorem MbR.below {w w' : World} {cs : List Value} {m : Cf.Mb} (h : MbR w cs m) {B : Nat} (hb : Below B w w') (hB : w.heap.size ≤ B) : MbR w' cs m:=by
 obtain ⟨cv,hv,h1,h2,h3,h4⟩:=h
 exact ⟨cv,hv,h1,(h2.below hb hB).mono hb.size,h3.below hb hB,h4⟩
def MsC (w : World) : List (List Value) → List Cf.Mb → Prop
 | [],[]=>True
 | r :: rs,m :: ms=>MbR w r m ∧ MsC w rs ms
 | _,_=>False
theorem MsC.below {w w' : World} {B : Nat} (hb : Below B w w') (hB : w.heap.size ≤ B) : ∀ {rs : List (List Value)} {ms : List Cf.Mb},MsC w rs ms → MsC w' rs ms
 | [],[],_=>trivial
 | _ :: _,_ :: _,h=>⟨h.1.below hb hB,h.2.below hb hB⟩
 | [],_ :: _,h=>h.elim
 | _ :: _,[],h=>h.elim
theorem MsC.len {w : World} : ∀ {rs : List (List Value)} {ms : List Cf.Mb},MsC w rs ms → rs.length = ms.length ∧ rs.flatten.length = ms.length * 7
 | [],[],_=>⟨rfl,rfl⟩
 | _ :: _,_ :: _,h=>by
  obtain ⟨h1,h2⟩:=MsC.len h.2
  have h3:=h.1.len
  simp only [List.length_cons,List.flatten_cons,List.length_append]
  omega
 | [],_ :: _,h=>h.elim
 | _ :: _,[],h=>h.elim
theorem MsC.at {w : World} : ∀ {rs : List (List Value)} {ms : List Cf.Mb} {k : Nat} {m : Cf.Mb},MsC w rs ms → ms[k]? = some m → ∃ r,MbR w r m ∧ ∀ j,j < 7 → rs.flatten[k * 7 + j]? = r[j]?
 | [],[],_,_,_,hk=>by simp at hk
 | r :: rs,m :: ms,0,x,h,hk=>by
  simp only [List.getElem?_cons_zero,Option.some.injEq] at hk
  subst hk
  refine ⟨r,h.1,fun j hj=>?_⟩
  rw [List.flatten_cons,List.getElem?_append_left (by have:=h.1.len;omega)]
  simp
 | r :: rs,m :: ms,k + 1,x,h,hk=>by
  obtain ⟨r',h1,h2⟩:=MsC.at h.2 (by simpa using hk)
  refine ⟨r',h1,fun j hj=>?_⟩
  have h3:=h.1.len
  rw [List.flatten_cons,List.getElem?_append_right (by omega),h3,← h2 j hj]
  congr 1
  omega
 | [],_ :: _,_,_,h,_=>h.elim
 | _ :: _,[],_,_,h,_=>h.elim
theorem MsC.append {w : World} : ∀ {rs : List (List Value)} {ms : List Cf.Mb} {r : List Value} {m : Cf.Mb},MsC w rs ms → MbR w r m → MsC w (rs ++ [r]) (ms ++ [m])
 | [],[],_,_,_,h=>⟨h,trivial⟩
 | _ :: _,_ :: _,_,_,h,k=>⟨h.1,h.2.append k⟩
 | [],_ :: _,_,_,h,_=>h.elim
 | _ :: _,[],_,_,h,_=>h.elim
def MsR (w : World) (v : Value) (ms : List Cf.Mb) : Prop:=∃ rs,MsC w rs ms ∧ Kit.IsS 7 w v ms.length rs.flatten
theorem MsR.below {w w' : World} {v : Value} {ms : List Cf.Mb} (h : MsR w v ms) {B : Nat} (hb : Below B w w') (hB : w.heap.size ≤ B) : MsR w' v ms:=by
 obtain ⟨rs,h1,h2⟩:=h
 exact ⟨rs,h1.below hb hB,h2.below hb hB⟩
theorem MsR.len {w : World} {v : Value} {ms : List Cf.Mb} (h : MsR w v ms) : ∃ a cap,v = .slice a ms.length cap:=by
 obtain ⟨rs,h1,h2⟩:=h
 exact h2.len
theorem MsR.size {w : World} {v : Value} {ms : List Cf.Mb} (h : MsR w v ms) : ms.length ≤ 140737488355328:=by
 obtain ⟨rs,h1,h2⟩:=h
 exact h2.2.1
theorem MsR.at {w : World} {v : Value} {ms : List Cf.Mb} (h : MsR w v ms) {k : Nat} {m : Cf.Mb} (hk : ms[k]? = some m) :
  ∃ b o cap cv hv,v = .slice (some ⟨b,o,none⟩) ms.length cap ∧ b < w.heap.size ∧ L3.Bs w.heap.size w cv m.code ∧ Kit.IsS 4 w hv m.hs.length (m.hs.flatMap hL) ∧ m.code.length ≤ 140737488355328 ∧
   w.cell? ⟨b,o + k * 7,none⟩ = some (.int .i64 m.ac) ∧ w.cell? ⟨b,o + k * 7 + 1,none⟩ = some (.int .i64 m.nm) ∧ w.cell? ⟨b,o + k * 7 + 2,none⟩ = some (.int .i64 m.ds) ∧ w.cell? ⟨b,o + k * 7 + 3,none⟩ = some (.int .i64 m.st) ∧
   w.cell? ⟨b,o + k * 7 + 4,none⟩ = some (.int .i64 m.lc) ∧ w.cell? ⟨b,o + k * 7 + 5,none⟩ = some cv ∧ w.cell? ⟨b,o + k * 7 + 6,none⟩ = some hv:=by
 obtain ⟨rs,h1,h2⟩:=h
 have hlt : k < ms.length:=(List.getElem?_eq_some_iff.1 hk).1
 obtain ⟨b,o,cap,hv,-,hb,hc⟩:=h2.some (by omega)
 obtain ⟨r,⟨cv,hw,rfl,hB,hH,hl⟩,hr⟩:=h1.at hk
 refine ⟨b,o,cap,cv,hw,hv,hb,hB,hH,hl,?_,?_,?_,?_,?_,?_,?_⟩
 ·exact hc (k * 7) _ (by rw [← Nat.add_zero (k * 7),hr 0 (by omega)];rfl)
 ·exact Nat.add_assoc o (k * 7) 1 ▸ hc _ _ (by rw [hr 1 (by omega)];rfl)
 ·exact Nat.add_assoc o (k * 7) 2 ▸ hc _ _ (by rw [hr 2 (by omega)];rfl)
 ·exact Nat.add_assoc o (k * 7) 3 ▸ hc _ _ (by rw [hr 3 (by omega)];rfl)
 ·exact Nat.add_assoc o (k * 7) 4 ▸ hc _ _ (by rw [hr 4 (by omega)];rfl)
 ·exact Nat.add_assoc o (k * 7) 5 ▸ hc _ _ (by rw [hr 5 (by omega)];rfl)
 ·exact Nat.add_assoc o (k * 7) 6 ▸ hc _ _ (by rw [hr 6 (by omega)];rfl)
theorem h_at {w : World} {v : Value} {hs : List Cf.Hn} (h : Kit.IsS 4 w v hs.length (hs.flatMap hL)) {k : Nat} {x : Cf.Hn} (hx : hs[k]? = some x) :
  ∃ b o cap,v = .slice (some ⟨b,o,none⟩) hs.length cap ∧ b < w.heap.size ∧ w.cell? ⟨b,o + k * 4,none⟩ = some (.int .i64 x.f) ∧ w.cell? ⟨b,o + k * 4 + 1,none⟩ = some (.int .i64 x.t) ∧
   w.cell? ⟨b,o + k * 4 + 2,none⟩ = some (.int .i64 x.a) ∧ w.cell? ⟨b,o + k * 4 + 3,none⟩ = some (.int .i64 x.y):=by
 have hlt : k < hs.length:=(List.getElem?_eq_some_iff.1 hx).1
 obtain ⟨b,o,cap,hv,-,hb,hc⟩:=h.some (by omega)
 have hf:=fun j hj=>Kit.flat_at hL_len hx j hj
 refine ⟨b,o,cap,hv,hb,?_,?_,?_,?_⟩
 ·exact hc (k * 4) _ (by have:=hf 0 (by omega);simpa [hL] using this)
 ·exact Nat.add_assoc o (k * 4) 1 ▸ hc _ _ (by rw [hf 1 (by omega)];rfl)
 ·exact Nat.add_assoc o (k * 4) 2 ▸ hc _ _ (by rw [hf 2 (by omega)];rfl)
 ·exact Nat.add_assoc o (k * 4) 3 ▸ hc _ _ (by rw [hf 3 (by omega)];rfl)
def ClR (w : World) (vs : Array Value) (c : Cf.Cl) : Prop :=
 ∃ pv fv mv,vs = #[.int .i64 c.mi,.int .i64 c.ma,pv,.int .i64 c.ac,.int .i64 c.th,.int .i64 c.su,fv,mv] ∧ Kit.IsS 5 w pv c.pool.length (c.pool.flatMap L3.cL) ∧ MsR w fv c.fs ∧ MsR w mv c.ms
theorem ClR.below {w w' : World} {vs : Array Value} {c : Cf.Cl} (h : ClR w vs c) {B : Nat} (hb : Below B w w') (hB : w.heap.size ≤ B) : ClR w' vs c:=by
 obtain ⟨pv,fv,mv,h1,h2,h3,h4⟩:=h
 exact ⟨pv,fv,mv,h1,h2.below hb hB,h3.below hb hB,h4.below hb hB⟩
theorem isB_of_bs {w : World} {v : Value} {bs : List UInt8} (h : L3.Bs w.heap.size w v bs) (hl : bs.length ≤ 140737488355328) : L1.IsB w v bs:=by
 refine ⟨hl,?_⟩
 rcases h.2 with h|⟨b,o,cap,hv,hc,hb,hx⟩
 ·exact .inl h
 ·refine .inr ⟨b,o,cap,hv,hc,hb,fun i hi=>?_⟩
  rw [hx i bs[i] (List.getElem?_eq_getElem hi)]
  unfold L1.Op1.at8
  simp [hi,L3.bv]
end Go.Proofs.YtnojgiflgmnjlaaGreatDoor
namespace Go.Proofs.YtnojgiflgmnjlaaGreatDoor.Kit
open Go Go.RowKit
theorem step_call2g {P : Program} {ops : Array Oper} {o : Oper} {a : Act} {w : World} {K : Act → World → Prop} {Q : Exit → Act → World → Prop} {E : Prop}
  (hw : Region.wanted o (yielded ops a.tmps) = true) (f : FuncId) (x y : Operand) (t t' : TypeId) (hop : o.op = Op.call { callee:=Callee.value (.func f),args:=#[x,y],argTypes:=#[t,t'] }) (v v' : Value) (hx : a.eval x = v) (hy : a.eval y = v') (hcf : (callFunc f #[v,v']).run P w = .ok (.enter f #[v,v']) w)
  (R : Ending → World → Prop) (hC : Calls P f #[v,v'] w R) (hR : ∀ e w',R e w' → ∃ u,e = .returned u ∧ K (a.put o.dst u) w') :
  if Region.wanted o (yielded ops a.tmps) = true then Oper.wp P o a w K Q else E:=by
 rw [if_pos hw]
 have hrun : (execOp a.eval o).run P w = .ok (.enter f #[v,v']) w:=by
  cases o
  simp only at hop
  subst hop hx hy
  rw [execOp_call_go]
  simpa using hcf
 unfold Oper.wp
 rw [hrun]
 show Calls P f #[v,v'] w _
 refine hC.mono ?_
 intro e w' h
 obtain ⟨u,rfl,hk⟩:=hR e w' h
 exact hk
end Go.Proofs.YtnojgiflgmnjlaaGreatDoor.Kit
namespace Go.Proofs.YtnojgiflgmnjlaaGreatDoor.Kit
open Go Go.RowKit
theorem step_call3 {P : Program} {ops : Array Oper} {o : Oper} {a : Act} {w : World} {K : Act → World → Prop} {Q : Exit → Act → World → Prop} {E : Prop}
  (hg : o.guard = none) (f : FuncId) (x y z : Operand) (t t' t'' : TypeId) (hop : o.op = Op.call { callee:=Callee.value (.func f),args:=#[x,y,z],argTypes:=#[t,t',t''] }) (v v' v'' : Value) (hx : a.eval x = v) (hy : a.eval y = v') (hz : a.eval z = v'') (hcf : (callFunc f #[v,v',v'']).run P w = .ok (.enter f #[v,v',v'']) w)
  (R : Ending → World → Prop) (hC : Calls P f #[v,v',v''] w R) (hR : ∀ e w',R e w' → ∃ u,e = .returned u ∧ K (a.put o.dst u) w') :
  if Region.wanted o (yielded ops a.tmps) = true then Oper.wp P o a w K Q else E:=by
 have hw : Region.wanted o (yielded ops a.tmps) = true:=by simp [Region.wanted,hg]
 rw [if_pos hw]
 have hrun : (execOp a.eval o).run P w = .ok (.enter f #[v,v',v'']) w:=by
  cases o
  simp only at hop
  subst hop hx hy hz
  rw [execOp_call_go]
  simpa using hcf
 unfold Oper.wp
 rw [hrun]
 show Calls P f #[v,v',v''] w _
 refine hC.mono ?_
 intro e w' h
 obtain ⟨u,rfl,hk⟩:=hR e w' h
 exact hk
theorem blk_append_str {P : Program} (w : World) (base : Nat) (t u ty e : TypeId) (i : TypeInfo) (ht : P.underlying t = some (.slice e)) (hu : P.underlying u = some .string) (hi : P.info? e = some i) (hz : i.zero = some (.int .u8 0))
  (hsize : i.size = 1) (hby : i.bytes = 1) (g n cap : Nat) (xs : List Value) (hown : w.ownsRow base e 1 (.slice (some ⟨g,0,none⟩) n cap) n xs) (s : ByteArray)
  (hbytes : n + s.size ≤ 140737488355328) {v' : Value} {w' : World} (hr : (Builtin.append_ #[t,u] ty #[.slice (some ⟨g,0,none⟩) n cap,.string s]).run P w = .ok v' w') :
  v'.ownBlock = some g ∨ v'.ownBlock = some w.heap.size:=by
 have hxl : xs.length = n:=by simpa using hown.1
 have holds : ∀ j u,xs[j]? = some u → w.cell? ((⟨g,0,none⟩ : Addr).add j) = some u:=hown.cells (g:=g) rfl
 rcases hown.2 with ⟨h,-⟩|⟨g',cap',cur,h,hbg,hg,hnc,hcm,hcs,htake⟩
 ·cases h
 ·obtain ⟨h1,-,rfl⟩:=Value.slice.inj h
  obtain rfl : g = g':=by simpa using h1
  by_cases hroom : n + s.size ≤ cap
  ·have hfit : n + s.size ≤ cur.size:=by
    have : cur.size = cap:=by simpa using hcs
    omega
   have h2:=Lib.run_append_room_string (P:=P) w t u ty e i ht hu hi hsize g n cap cur hg s hroom hfit
   rw [h2] at hr
   simp only [Result.ok.injEq] at hr
   rw [← hr.1]
   exact .inl rfl
  ·have h2:=Lib.run_append_grow_string (P:=P) w t u ty e i (.int .u8 0) ht hu hi hz ⟨g,0,none⟩ n cap xs (by rw [hsize,hxl,Nat.mul_one]) holds s (by omega) (by omega) (by rw [hby];exact growslice_fits (by omega) (by omega))
   rw [h2] at hr
   simp only [Result.ok.injEq] at hr
   rw [← hr.1]
   exact .inr rfl
theorem step_append_str {P : Program} {ops : Array Oper} {o : Oper} {a : Act} {w : World} {K : Act → World → Prop} {Q : Exit → Act → World → Prop} {E : Prop}
  (hgd : o.guard = none) (sl x : Operand) (t u : TypeId) (hop : o.op = Op.call { callee:=Callee.builtin Builtin.append,args:=#[sl,x],argTypes:=#[t,u] })
  (base : Nat) (e : TypeId) (i : TypeInfo) (ht : P.underlying t = some (.slice e)) (hu : P.underlying u = some .string) (hi : P.info? e = some i) (hz : i.zero = some (.int .u8 0))
  (hsize : i.size = 1) (hby : i.bytes = 1) (g n cap : Nat) (xs : List Value) (hs : a.eval sl = .slice (some ⟨g,0,none⟩) n cap) (hown : w.ownsRow base e 1 (.slice (some ⟨g,0,none⟩) n cap) n xs) (s : ByteArray) (hx : a.eval x = .string s)
  (h63 : n + s.size ≤ maxLen) (hbytes : n + s.size ≤ 140737488355328) (hbase : base ≤ w.heap.size)
  (hK : ∀ v' w',w'.ownsRow base e 1 v' (n + s.size) (xs ++ Lib.strCells s) → w.grownBy w' (some g) → (v'.ownBlock = some g ∨ v'.ownBlock = some w.heap.size) → K (a.put o.dst v') w') :
  if Region.wanted o (yielded ops a.tmps) = true then Oper.wp P o a w K Q else E:=by
 have hw : Region.wanted o (yielded ops a.tmps) = true:=by simp [Region.wanted,hgd]
 rw [if_pos hw]
 obtain ⟨v',w',hr,h2,h3,-⟩:=Lib.run_append_own_string (P:=P) w base t u o.type e i ht hu hi hz hsize hby _ n xs hown s h63 hbytes hbase
 have h5:=blk_append_str (P:=P) w base t u o.type e i ht hu hi hz hsize hby g n cap xs hown s hbytes hr
 unfold Oper.wp execOp
 simp only [hop,resolve,invoke,builtin,Sem.run_bind,Sem.run_pure,Result.andThen_ok,List.map_toArray,List.map_cons,List.map_nil,hs,hx,hr]
 exact hK _ _ h2 h3 h5
end Go.Proofs.YtnojgiflgmnjlaaGreatDoor.Kit

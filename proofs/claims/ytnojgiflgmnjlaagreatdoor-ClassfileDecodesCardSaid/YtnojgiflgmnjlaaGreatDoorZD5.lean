/- Own texts for the claim, part 5. -/
import Derived.Test.YtnojgiflgmnjlaaGreatDoorZD4
set_option maxRecDepth 100000
namespace Go.Proofs.YtnojgiflgmnjlaaGreatDoor.L1
open Go.RowKit
theorem bcell {W w1 : World} (hb : Below W.heap.size W w1) : (∀ b o,b < W.heap.size → w1.cell? ⟨b,o,none⟩ = W.cell? ⟨b,o,none⟩) ∧ (∀ b o,b < W.heap.size → w1.frozen? ⟨b,o,none⟩ = W.frozen? ⟨b,o,none⟩) :=
 ⟨fun b o h=>hb.cell (p:=⟨b,o,none⟩) h,fun b o h=>hb.frozen (p:=⟨b,o,none⟩) h⟩
theorem one_zero (b o n cap k c : Nat) (w : World) (hk : k < n) (hn : n ≤ 140737488355328) (hcap : n ≤ cap) (hc8 : c < 256) (ht : Tabs w) (hc : w.cell? ⟨b,o + k,none⟩ = some (.int .u8 c)) (hop : Op1.isOp c = true) (hsz : Op1.szOf c = 1) (hf : Op1.formOf c = 0) (h188 : c ≠ 188) :
  Calls Tryz.prog 178 #[.slice (some ⟨b,o,none⟩) n cap,.int .i64 k] w fun e w'=>e = .returned (oneV (⟨k,c,0,0⟩,k + 1,0)) ∧ Below w.heap.size w w':=by
 unfold oneV insV
 have hsize:=fun W (h : Below w.heap.size w W)=>size_any c W (ht.below h ht.size)
 unfold szV at hsize
 rw [hop,hsz] at hsize
 have hread:=fun sv W (h : Below w.heap.size w W)=>read_zero c k sv W (ht.below h ht.size) hf
 unfold insV at hread
 have H:=hid hsize
 have HR:=hid hread
 have hlt:=World.block_lt_of_cell? w _ hc
 have hd : decide ((k : Int) < 0) = false:=by simp
 have hd2 : decide ((n : Int) - (k : Int) < 1) = false:=by simp;omega
 have h1 : ((c : Int) == 188) = false:=by simp;omega
 clear hsize hop ht hsz hf hread h188
 go_enter Tryz.func178,Tryz.ntmps178
 go_wp2_with (first|(go_at_call 192;refine (H.out _ BLw).mono ?_;rintro e w' ⟨rfl,rfl⟩)|(go_at_call 193;refine (HR.out _ _ BLw).mono ?_;rintro e w' ⟨rfl,hb⟩;obtain ⟨hcc,hff⟩:=bcell hb;have hz:=hb.size;simp only [World.size_alloc] at hz;have hz1 : w.heap.size < w'.heap.size:=by omega))
 all_goals have hb':=(belows (B:=w.heap.size) (a:=w) BLw hb (by simp))
 all_goals exact bodyPost_ret (v:=.tuple #[.agg #[.int .i64 k,.int .i64 c,.int .i64 0,.int .i64 0],.int .i64 (k + 1),.int .i64 0]) (by simp [results,Tryz.results178,go_sem,hcc,hz1]) rfl ⟨rfl,BLw⟩
theorem one_long (b o n cap k c sz : Nat) (xa xb : Int) (w : World) (hk : k + sz ≤ n) (hn : n ≤ 140737488355328) (hcap : n ≤ cap) (hc8 : c < 256) (ht : Tabs w) (hc : w.cell? ⟨b,o + k,none⟩ = some (.int .u8 c)) (hop : Op1.isOp c = true) (hsz : Op1.szOf c = sz) (hsz2 : 2 ≤ sz)
  (hread : ∀ W,Below w.heap.size w W → Calls Tryz.prog 193 #[.int .i64 c,.int .i64 k,.slice (some ⟨b,o + (k + 1),none⟩) (k + sz - (k + 1)) (cap - (k + 1))] W fun e w'=>e = .returned (insV ⟨k,c,xa,xb⟩) ∧ Below W.heap.size W w')
  (hgood : c ≠ 188 ∨ xa = 10 ∨ xa = 11) :
  Calls Tryz.prog 178 #[.slice (some ⟨b,o,none⟩) n cap,.int .i64 k] w fun e w'=>e = .returned (oneV (⟨k,c,xa,xb⟩,k + sz,0)) ∧ Below w.heap.size w w':=by
 unfold oneV insV
 have hsize:=fun W (h : Below w.heap.size w W)=>size_any c W (ht.below h ht.size)
 unfold szV at hsize
 rw [hop,hsz] at hsize
 unfold insV at hread
 have H:=hid hsize
 have HR:=hid hread
 have hlt:=World.block_lt_of_cell? w _ hc
 have hd : decide ((k : Int) < 0) = false:=by simp
 have hd2 : decide ((n : Int) - (k : Int) < (sz : Int)) = false:=by simp;omega
 have hne : ¬ cap = k + 1:=by omega
 clear hsize hop ht hsz hread
 rcases hgood with h188|h188|h188
 ·have h1 : ((c : Int) == 188) = false:=by simp;omega
  clear h188
  (go_enter Tryz.func178,Tryz.ntmps178;go_wp2_with (first|(go_at_call 192;refine (H.out _ BLw).mono ?_;rintro e w' ⟨rfl,rfl⟩)|(go_at_call 193;refine (HR.out _ BLw).mono ?_;rintro e w' ⟨rfl,hb⟩;obtain ⟨hcc,hff⟩:=bcell hb;have hz:=hb.size;simp only [World.size_alloc] at hz;have hz1 : w.heap.size < w'.heap.size:=by omega));have hb':=(belows (B:=w.heap.size) (a:=w) BLw hb (by simp));exact bodyPost_ret (v:=.tuple #[.agg #[.int .i64 k,.int .i64 c,.int .i64 _,.int .i64 xb],.int .i64 (k + sz),.int .i64 0]) (by simp [results,Tryz.results178,go_sem,hcc,hz1]) rfl ⟨rfl,BLw⟩)
 ·subst h188
  by_cases h188 : c = 188
  ·have h1 : ((c : Int) == 188) = true:=by simp;omega
   clear h188
   (go_enter Tryz.func178,Tryz.ntmps178;go_wp2_with (first|(go_at_call 192;refine (H.out _ BLw).mono ?_;rintro e w' ⟨rfl,rfl⟩)|(go_at_call 193;refine (HR.out _ BLw).mono ?_;rintro e w' ⟨rfl,hb⟩;obtain ⟨hcc,hff⟩:=bcell hb;have hz:=hb.size;simp only [World.size_alloc] at hz;have hz1 : w.heap.size < w'.heap.size:=by omega));have hb':=(belows (B:=w.heap.size) (a:=w) BLw hb (by simp));exact bodyPost_ret (v:=.tuple #[.agg #[.int .i64 k,.int .i64 c,.int .i64 _,.int .i64 xb],.int .i64 (k + sz),.int .i64 0]) (by simp [results,Tryz.results178,go_sem,hcc,hz1]) rfl ⟨rfl,BLw⟩)
  ·have h1 : ((c : Int) == 188) = false:=by simp;omega
   clear h188
   (go_enter Tryz.func178,Tryz.ntmps178;go_wp2_with (first|(go_at_call 192;refine (H.out _ BLw).mono ?_;rintro e w' ⟨rfl,rfl⟩)|(go_at_call 193;refine (HR.out _ BLw).mono ?_;rintro e w' ⟨rfl,hb⟩;obtain ⟨hcc,hff⟩:=bcell hb;have hz:=hb.size;simp only [World.size_alloc] at hz;have hz1 : w.heap.size < w'.heap.size:=by omega));have hb':=(belows (B:=w.heap.size) (a:=w) BLw hb (by simp));exact bodyPost_ret (v:=.tuple #[.agg #[.int .i64 k,.int .i64 c,.int .i64 _,.int .i64 xb],.int .i64 (k + sz),.int .i64 0]) (by simp [results,Tryz.results178,go_sem,hcc,hz1]) rfl ⟨rfl,BLw⟩)
 ·subst h188
  by_cases h188 : c = 188
  ·have h1 : ((c : Int) == 188) = true:=by simp;omega
   clear h188
   (go_enter Tryz.func178,Tryz.ntmps178;go_wp2_with (first|(go_at_call 192;refine (H.out _ BLw).mono ?_;rintro e w' ⟨rfl,rfl⟩)|(go_at_call 193;refine (HR.out _ BLw).mono ?_;rintro e w' ⟨rfl,hb⟩;obtain ⟨hcc,hff⟩:=bcell hb;have hz:=hb.size;simp only [World.size_alloc] at hz;have hz1 : w.heap.size < w'.heap.size:=by omega));have hb':=(belows (B:=w.heap.size) (a:=w) BLw hb (by simp));exact bodyPost_ret (v:=.tuple #[.agg #[.int .i64 k,.int .i64 c,.int .i64 _,.int .i64 xb],.int .i64 (k + sz),.int .i64 0]) (by simp [results,Tryz.results178,go_sem,hcc,hz1]) rfl ⟨rfl,BLw⟩)
  ·have h1 : ((c : Int) == 188) = false:=by simp;omega
   clear h188
   (go_enter Tryz.func178,Tryz.ntmps178;go_wp2_with (first|(go_at_call 192;refine (H.out _ BLw).mono ?_;rintro e w' ⟨rfl,rfl⟩)|(go_at_call 193;refine (HR.out _ BLw).mono ?_;rintro e w' ⟨rfl,hb⟩;obtain ⟨hcc,hff⟩:=bcell hb;have hz:=hb.size;simp only [World.size_alloc] at hz;have hz1 : w.heap.size < w'.heap.size:=by omega));have hb':=(belows (B:=w.heap.size) (a:=w) BLw hb (by simp));exact bodyPost_ret (v:=.tuple #[.agg #[.int .i64 k,.int .i64 c,.int .i64 _,.int .i64 xb],.int .i64 (k + sz),.int .i64 0]) (by simp [results,Tryz.results178,go_sem,hcc,hz1]) rfl ⟨rfl,BLw⟩)
theorem one_bad (b o n cap k sz : Nat) (xa xb : Int) (w : World) (hk : k + sz ≤ n) (hn : n ≤ 140737488355328) (hcap : n ≤ cap) (ht : Tabs w) (hc : w.cell? ⟨b,o + k,none⟩ = some (.int .u8 188)) (hop : Op1.isOp 188 = true) (hsz : Op1.szOf 188 = sz) (hsz2 : 2 ≤ sz)
  (hread : ∀ W,Below w.heap.size w W → Calls Tryz.prog 193 #[.int .i64 188,.int .i64 k,.slice (some ⟨b,o + (k + 1),none⟩) (k + sz - (k + 1)) (cap - (k + 1))] W fun e w'=>e = .returned (insV ⟨k,188,xa,xb⟩) ∧ Below W.heap.size W w')
  (h10 : (xa == 10) = false) (h11 : (xa == 11) = false) :
  Calls Tryz.prog 178 #[.slice (some ⟨b,o,none⟩) n cap,.int .i64 k] w fun e w'=>e = .returned (oneV (Op1.noIns,0,13)) ∧ Below w.heap.size w w':=by
 unfold oneV Op1.noIns insV
 have hsize:=fun W (h : Below w.heap.size w W)=>size_any 188 W (ht.below h ht.size)
 unfold szV at hsize
 rw [hop,hsz] at hsize
 unfold insV at hread
 have H:=hid hsize
 have HR:=hid hread
 have hlt:=World.block_lt_of_cell? w _ hc
 have hd : decide ((k : Int) < 0) = false:=by simp
 have hd2 : decide ((n : Int) - (k : Int) < (sz : Int)) = false:=by simp;omega
 have hne : ¬ cap = k + 1:=by omega
 have h10' : (xa != 10) = true:=by simpa using h10
 have h11' : (xa != 11) = true:=by simpa using h11
 clear hsize hop ht hsz hread
 go_enter Tryz.func178,Tryz.ntmps178
 go_wp2_with (first|(go_at_call 192;refine (H.out _ BLw).mono ?_;rintro e w' ⟨rfl,rfl⟩)|(go_at_call 193;refine (HR.out _ BLw).mono ?_;rintro e w' ⟨rfl,hb⟩;obtain ⟨hcc,hff⟩:=bcell hb;have hz:=hb.size;simp only [World.size_alloc] at hz;have hz1 : w.heap.size < w'.heap.size:=by omega))
 have hb':=(belows (B:=w.heap.size) (a:=w) BLw hb (by simp))
 exact bodyPost_ret (v:=.tuple #[.agg #[.int .i64 0,.int .i64 0,.int .i64 0,.int .i64 0],.int .i64 0,.int .i64 13]) (by simp [results,Tryz.results178,go_sem,hcc,hz1]) rfl ⟨rfl,BLw⟩
end Go.Proofs.YtnojgiflgmnjlaaGreatDoor.L1
namespace Go.Proofs.YtnojgiflgmnjlaaGreatDoor.L1
open Go.RowKit
theorem one_any (bs : List UInt8) (v : Value) (p : Int) (w : World) (ht : Tabs w) (hb : IsB w v bs) :
  Calls Tryz.prog 178 #[v,.int .i64 p] w fun e w'=>e = .returned (oneV (Op1.one bs p)) ∧ Below w.heap.size w w':=by
 unfold Op1.one
 by_cases h0 : p < 0 ∨ (bs.length : Int) ≤ p
 ·rw [if_pos h0]
  obtain ⟨a,cap,rfl⟩:=hb.len
  exact one_out a _ cap p w h0
 ·rw [if_neg h0]
  obtain ⟨k,rfl⟩:=Int.eq_ofNat_of_zero_le (show 0 ≤ p by omega)
  have hk : k < bs.length:=by omega
  have hn:=hb.1
  rcases hb.2 with ⟨rfl,-⟩|⟨b,o,cap,rfl,hcap,hlt,hc⟩
  ·simp at hk
  ·have hc0:=hc k hk
   simp only [Int.toNat_natCast]
   have h8:=Op1.at8_lt bs k
   by_cases hop : Op1.isOp (Op1.at8 bs k) = false
   ·rw [if_pos hop]
    exact one_noop b o _ cap k _ w hk h8 ht hc0 hop
   ·rw [if_neg hop]
    have hop' : Op1.isOp (Op1.at8 bs k) = true:=by simpa using hop
    have hsz : Op1.szOf (Op1.at8 bs k) = 1 + Op1.bh (Op1.formOf (Op1.at8 bs k)):=by unfold Op1.szOf;rw [hop'];rfl
    by_cases hcut : (bs.length : Int) - k < Op1.szOf (Op1.at8 bs k)
    ·rw [if_pos hcut]
     exact one_cut b o _ cap k _ _ w hk hn h8 ht hc0 hop' rfl (by omega)
    ·rw [if_neg hcut]
     have hf8:=Op1.formOf_le (Op1.at8 bs k)
     have hf188 : Op1.formOf ((188 : Nat) : Int) = 8:=by decide +kernel
     have hks : k + Op1.szOf (Op1.at8 bs k) ≤ bs.length:=by omega
     by_cases hf : Op1.formOf (Op1.at8 bs k) = 0
     ·have h188 : Op1.at8 bs k ≠ 188:=by intro e;rw [e] at hf;exact absurd hf (by decide +kernel)
      have h1 : Op1.szOf (Op1.at8 bs k) = 1:=by rw [hsz,hf];rfl
      rw [if_neg (fun h=>h188 h.1)]
      have:=one_zero b o _ cap k _ w hk hn hcap h8 ht hc0 hop' h1 hf h188
      have e : Op1.insAt bs k = ⟨k,Op1.at8 bs k,0,0⟩:=by unfold Op1.insAt;rw [hf];rfl
      rw [e,h1]
      exact this
     ·have hbh : 1 ≤ Op1.bh (Op1.formOf (Op1.at8 bs k)) ∧ Op1.bh (Op1.formOf (Op1.at8 bs k)) ≤ 2:=(show ∀ f,f < 9 → f ≠ 0 → 1 ≤ Op1.bh f ∧ Op1.bh f ≤ 2 by decide +kernel) _ (by omega) hf
      have hread : ∀ W,Below w.heap.size w W → Calls Tryz.prog 193 #[.int .i64 (Op1.at8 bs k),.int .i64 k,.slice (some ⟨b,o + (k + 1),none⟩) (k + Op1.szOf (Op1.at8 bs k) - (k + 1)) (cap - (k + 1))] W
        fun e w'=>e = .returned (insV ⟨k,Op1.at8 bs k,(Op1.insAt bs k).a,(Op1.insAt bs k).b⟩) ∧ Below W.heap.size W w':=by
       intro W hW
       refine read_any _ k _ _ _ (Op1.at8 bs (k + 1)) (Op1.at8 bs (k + 2)) W (ht.below hW ht.size) (by omega) (Op1.at8_lt _ _) (Op1.at8_lt _ _) (by omega) (fun _=>⟨b,o + (k + 1),rfl,?_,fun h2=>?_⟩)
       ·exact (hW.cell (p:=⟨b,o + (k + 1),none⟩) hlt).trans (hc (k + 1) (by omega))
       ·exact (hW.cell (p:=⟨b,o + (k + 1) + 1,none⟩) hlt).trans (by have:=hc (k + 2) (by omega);rwa [show o + (k + 2) = o + (k + 1) + 1 by omega] at this)
      by_cases hbad : Op1.at8 bs k = 188 ∧ Op1.at8 bs (k + 1) ≠ 10 ∧ Op1.at8 bs (k + 1) ≠ 11
      ·rw [if_pos hbad]
       have ha : (Op1.insAt bs k).a = (Op1.at8 bs (k + 1) : Nat):=by
        unfold Op1.insAt;rw [hbad.1,hf188];rfl
       have h10 : ((Op1.insAt bs k).a == 10) = false:=by rw [ha];simp;omega
       have h11 : ((Op1.insAt bs k).a == 11) = false:=by rw [ha];simp;omega
       have hs2 : 2 ≤ Op1.szOf (Op1.at8 bs k):=by omega
       rw [hbad.1] at hread hc0 hop' hks hs2
       exact one_bad b o _ cap k _ _ _ w hks hn hcap ht hc0 hop' rfl hs2 hread h10 h11
      ·rw [if_neg hbad]
       have hgood : Op1.at8 bs k ≠ 188 ∨ (Op1.insAt bs k).a = 10 ∨ (Op1.insAt bs k).a = 11:=by
        by_cases h : Op1.at8 bs k = 188
        ·have ha : (Op1.insAt bs k).a = (Op1.at8 bs (k + 1) : Nat):=by unfold Op1.insAt;rw [h,hf188];rfl
         rw [ha];omega
        ·exact .inl h
       exact one_long b o _ cap k _ _ _ _ w (by omega) hn hcap h8 ht hc0 hop' rfl (by omega) hread hgood
def jB (op : Int) : Bool:=Op1.isOp op && Op1.formOf op == 6
theorem jumps_any (op : Int) (w : World) (ht : Tabs w) : Calls Tryz.prog 194 #[.int .i64 op] w fun e w'=>e = .returned (.bool (jB op)) ∧ w = w':=by
 have hform:=form_any op w ht
 unfold isV at hform
 unfold jB
 have hb : ((Op1.formOf op : Int) == 6) = (Op1.formOf op == 6):=by rw [Bool.eq_iff_iff];simp;omega
 generalize Op1.formOf op = f at *
 generalize Op1.isOp op = is at *
 have H:=hid hform
 clear hform
 generalize (f == 6) = g at *
 cases is
 all_goals
  go_enter Tryz.func194,Tryz.ntmps194
  go_wp2_with (go_at_call 205;refine H.out.mono ?_;rintro e w' ⟨rfl,rfl⟩)
  go_ret
  exact ⟨by simp,rfl⟩
theorem rjumps_any (op : Int) (w : World) : Calls Tryz.prog 182 #[.int .i64 op] w fun e w'=>e = .returned (.bool (jB op)) ∧ Below w.heap.size w w':=by
 have hform:=rform_any op w
 unfold isV at hform
 unfold jB
 have hb : ((Op1.formOf op : Int) == 6) = (Op1.formOf op == 6):=by rw [Bool.eq_iff_iff];simp;omega
 generalize Op1.formOf op = f at *
 generalize Op1.isOp op = is at *
 have H:=hid hform
 clear hform
 generalize (f == 6) = g at *
 cases is
 all_goals
  go_enter Tryz.func182,Tryz.ntmps182
  go_wp2_with (go_at_call 196;refine H.out.mono ?_;rintro e w' ⟨rfl,hb1⟩)
  go_ret
  exact ⟨by simp,hb1⟩
end Go.Proofs.YtnojgiflgmnjlaaGreatDoor.L1
namespace Go.Proofs.YtnojgiflgmnjlaaGreatDoor.L1
open Go.RowKit
def insC (x : Op1.Ins) : List Value:=[.int .i64 x.p,.int .i64 x.op,.int .i64 x.a,.int .i64 x.b]
theorem insC_len (x : Op1.Ins) : (insC x).length = 4:=rfl
def insCells (l : List Op1.Ins) : List Value:=l.flatMap insC
theorem ins_at {w : World} {v : Value} {l : List Op1.Ins} (h : Kit.IsS 4 w v l.length (insCells l)) {k : Nat} {x : Op1.Ins} (hx : l[k]? = some x) :
  ∃ b o cap,v = .slice (some ⟨b,o,none⟩) l.length cap ∧ b < w.heap.size ∧ w.cell? ⟨b,o + k * 4,none⟩ = some (.int .i64 x.p) ∧ w.cell? ⟨b,o + k * 4 + 1,none⟩ = some (.int .i64 x.op) ∧ w.cell? ⟨b,o + k * 4 + 2,none⟩ = some (.int .i64 x.a) ∧ w.cell? ⟨b,o + k * 4 + 3,none⟩ = some (.int .i64 x.b):=by
 have hk : k < l.length:=by rw [List.getElem?_eq_some_iff] at hx;exact hx.1
 obtain ⟨b,o,cap,hv,-,hlt,hc⟩:=h.some (by omega)
 have f:=fun j hj=>Kit.flat_at insC_len hx j hj
 refine ⟨b,o,cap,hv,hlt,?_,?_,?_,?_⟩
 ·exact hc (k * 4 + 0) _ (f 0 (by omega))
 ·exact hc (k * 4 + 1) _ (f 1 (by omega))
 ·exact hc (k * 4 + 2) _ (f 2 (by omega))
 ·exact hc (k * 4 + 3) _ (f 3 (by omega))
def hitB (l : List Op1.Ins) (k : Nat) (i : Int) : Bool:=(l.take k).any fun y=>y.p == i
def goodB (l : List Op1.Ins) (n : Nat) (x : Op1.Ins) : Bool:=!jB x.op || (decide (0 ≤ x.a) && decide (x.a < (n : Int)) && hitB l l.length x.a)
def landB (l : List Op1.Ins) (n : Nat) : Bool:=l.all (goodB l n)
theorem take_succ {α : Type} {l : List α} {k : Nat} {x : α} (h : l[k]? = some x) : l.take (k + 1) = l.take k ++ [x]:=by
 rw [List.take_add_one,h];rfl
theorem hitB_succ {l : List Op1.Ins} {k : Nat} {x : Op1.Ins} (h : l[k]? = some x) (i : Int) : hitB l (k + 1) i = (hitB l k i || x.p == i):=by
 unfold hitB;rw [take_succ h];simp
theorem landB_end {l : List Op1.Ins} {n : Nat} (h : (l.take l.length).all (goodB l n) = true) : landB l n = true:=by
 rw [List.take_of_length_le (Nat.le_refl _)] at h;exact h
theorem landB_bad {l : List Op1.Ins} {n k : Nat} {x : Op1.Ins} (h : l[k]? = some x) (hb : goodB l n x = false) : landB l n = false:=by
 unfold landB
 rw [List.all_eq_false]
 exact ⟨x,List.mem_of_getElem? h,by simp [hb]⟩
theorem all_next {l : List Op1.Ins} {f : Op1.Ins → Bool} {k : Nat} {x : Op1.Ins} (h : l[k]? = some x) (ha : (l.take k).all f = true) (hx : f x = true) : Hid ((l.take (k + 1)).all f = true):=by
 show _ = _
 rw [take_succ h,List.all_append,ha];simp [hx]
theorem made_at (n i : Nat) (hi : i < n) : (madeCells #[Value.bool false] n)[i]? = some (.bool false):=by
 simp [madeCells,hi,Nat.mod_one]
set_option maxHeartbeats 400000 in
theorem jumpsLand_any (l : List Op1.Ins) (v : Value) (n : Nat) (w : World) (ht : Tabs w) (hl : Kit.IsS 4 w v l.length (insCells l)) (hp : ∀ x ∈ l,0 ≤ x.p ∧ x.p < n) (hn : n ≤ 140737488355328) :
  Calls Tryz.prog 179 #[v,.int .i64 n] w fun e w'=>e = .returned (.bool (landB l n)) ∧ Below w.heap.size w w':=by
 obtain ⟨a0,cap,rfl⟩:=hl.len
 have hmk:=fun W=>run_make_row' (P:=Tryz.prog) 190 4 (.bool false) 1 (by kernel_rfl) (by kernel_rfl) rfl .i64 .i64 n (by omega) (by omega) W
 have hll:=hl.2.1
 have HL:=hid hl
 have HT:=hid ht
 have HP:=hid hp
 obtain ⟨C0,hC0⟩ : ∃ C,C = madeCells #[Value.bool false] n:=⟨_,rfl⟩
 rw [← hC0] at hmk
 have hC : ∀ i,i < n → C0[i]? = some (.bool (hitB l 0 i)):=fun i hi=>by rw [hC0,made_at n i hi];rfl
 have HC:=hid hC
 clear hC0 hC ht hp hl
 go_enter Tryz.func179,Tryz.ntmps179
 go_wp2
 go_loopw [14] (fun i wr=>∃ k : Nat,k ≤ l.length ∧ i = .int .i64 k ∧ Hid (∀ i,i < n → wr.cell? ⟨w.heap.size,i,none⟩ = some (.bool (hitB l k i))) ∧ (∀ i,wr.frozen? ⟨w.heap.size,i,none⟩ = false) ∧ w.heap.size < wr.heap.size ∧ Below w.heap.size w wr) (fun i _=>l.length - (intOf i).toNat)
 case atStart =>
  refine ⟨0,by omega,rfl,fun i hi=>?_,fun i=>by simp [go_sem],by simp,BLw⟩
  rw [World.cell?_alloc_at _ _ _ _ rfl]
  exact HC.out i hi
 case round =>
  obtain ⟨k,hk,rfl,hcl,hfr,hsz,hbl⟩:=hrel
  by_cases hlt : k < l.length
  ·obtain ⟨x,hx⟩ : ∃ x,l[k]? = some x:=⟨l[k],List.getElem?_eq_getElem hlt⟩
   obtain ⟨b,o,cap',hv,hb,c0,c1,c2,c3⟩:=ins_at (HL.out.below hbl (Nat.le_refl _)) hx
   obtain ⟨rfl,-,rfl⟩:=Value.slice.inj hv
   obtain ⟨xp,xop,xa,xb⟩:=x
   dsimp only at c0 c1 c2 c3
   have hpx:=HP.out _ (List.mem_of_getElem? hx)
   dsimp only at hpx
   obtain ⟨p,rfl⟩:=Int.eq_ofNat_of_zero_le hpx.1
   have hpn : p < n:=by omega
   have hcp:=hcl.out p hpn
   generalize hitB l k p = old at hcp
   have HX:=hid hx
   clear hx hpx hv
   go_wp2
   go_roundw
   case rel =>
    refine ⟨k + 1,by omega,by go_num,fun i hi=>?_,fun i=>?_,by simp;omega,BLw⟩
    ·rw [hitB_succ HX.out,World.cell?_alloc_past _ _ _ (by simpa using hsz)]
     rw [Kit.cell_set (i:=p) (v:=.bool true) (hcl.out i hi)]
     by_cases hip : p = i
     ·subst hip;simp
     ·have : ((p : Int) == (i : Int)) = false:=by rw [beq_eq_false_iff_ne];omega
      rw [this,Bool.or_false,if_neg hip]
    ·rw [World.frozen?_alloc_past _ _ _ (by simpa using hsz),World.frozen?_setCell]
     exact hfr i
   case measure=>simp [intOf];omega
  ·obtain rfl : k = l.length:=by omega
   go_wp2
   obtain ⟨wo,rfl⟩ : ∃ wo : World,wo = wr:=⟨_,rfl⟩
   go_loopw [25] (fun i wr=>∃ k : Nat,k ≤ l.length ∧ i = .int .i64 k ∧ Hid (∀ i,i < n → wr.cell? ⟨w.heap.size,i,none⟩ = some (.bool (hitB l l.length i))) ∧ Hid ((l.take k).all (goodB l n) = true) ∧ w.heap.size < wr.heap.size ∧ Below w.heap.size w wr) (fun i _=>l.length - (intOf i).toNat)
   case atStart=>exact ⟨0,by omega,rfl,hcl,rfl,hsz,hbl⟩
   case round =>
    obtain ⟨k,hk,rfl,hcl,hgd,hsz,hbl⟩:=hrel
    by_cases hlt : k < l.length
    ·obtain ⟨x,hx⟩ : ∃ x,l[k]? = some x:=⟨l[k],List.getElem?_eq_getElem hlt⟩
     obtain ⟨b,o,cap',hv,hb,c0,c1,c2,c3⟩:=ins_at (HL.out.below hbl (Nat.le_refl _)) hx
     obtain ⟨rfl,-,rfl⟩:=Value.slice.inj hv
     obtain ⟨xp,xop,xa,xb⟩:=x
     dsimp only at c0 c1 c2 c3
     have HX:=hid hx
     have HJ:=hid (fun W (h : Below wr.heap.size wr W)=>jumps_any xop W ((HT.out.below hbl (HT.out.size)).below h ((HT.out.below hbl (HT.out.size)).size)))
     have HG : Hid (goodB l n ⟨xp,xop,xa,xb⟩ = (!jB xop || (decide (0 ≤ xa) && decide (xa < (n : Int)) && hitB l l.length xa))):=rfl
     clear hx hv
     generalize jB xop = J at *
     cases J with
     | false =>
      go_wp2_with (go_at_call 194;refine (HJ.out _ BLw).mono ?_;rintro e w' ⟨rfl,rfl⟩)
      go_roundw
      case rel=>exact ⟨k + 1,by omega,by go_num,fun i hi=>by rw [World.cell?_alloc_past _ _ _ hsz];exact hcl.out i hi,all_next HX.out hgd.out (by rw [HG.out];rfl),by simp;omega,BLw⟩
      case measure=>simp [intOf];omega
     | true =>
      by_cases h0 : xa < 0
      ·have hd : decide (xa < 0) = true:=by simpa using h0
       have hfin:=landB_bad HX.out (by (rw [HG.out];have : decide (0 ≤ xa) = false:=by simp;omega);rw [this];rfl)
       have HF:=hid hfin
       clear hfin
       go_wp2_with (go_at_call 194;refine (HJ.out _ BLw).mono ?_;rintro e w' ⟨rfl,rfl⟩)
       go_ret
       exact ⟨by rw [HF.out];rfl,BLw⟩
      ·have hd : decide (xa < 0) = false:=by simpa using h0
       obtain ⟨q,rfl⟩:=Int.eq_ofNat_of_zero_le (show 0 ≤ xa by omega)
       by_cases h1 : n ≤ q
       ·have hd2 : decide ((n : Int) ≤ (q : Int)) = true:=by simp;omega
        have hfin:=landB_bad HX.out (by (rw [HG.out];have : decide ((q : Int) < (n : Int)) = false:=by simp;omega);rw [this];simp)
        have HF:=hid hfin
        clear hfin
        go_wp2_with (go_at_call 194;refine (HJ.out _ BLw).mono ?_;rintro e w' ⟨rfl,rfl⟩)
        go_ret
        exact ⟨by rw [HF.out];rfl,BLw⟩
       ·have hd2 : decide ((n : Int) ≤ (q : Int)) = false:=by simp;omega
        have hqn : q < n:=by omega
        have hcq:=hcl.out q hqn
        cases hq : hitB l l.length (q : Int) with
        | true =>
         rw [hq] at hcq
         have HQ:=hid hq
         clear hq
         go_wp2_with (go_at_call 194;refine (HJ.out _ BLw).mono ?_;rintro e w' ⟨rfl,rfl⟩)
         go_roundw
         case rel=>exact ⟨k + 1,by omega,by go_num,fun i hi=>by rw [World.cell?_alloc_past _ _ _ hsz];exact hcl.out i hi,all_next HX.out hgd.out (by rw [HG.out,HQ.out];simp;omega),by simp;omega,BLw⟩
         case measure=>simp [intOf];omega
        | false =>
         rw [hq] at hcq
         have hfin:=landB_bad HX.out (by rw [HG.out,hq];simp)
         have HF:=hid hfin
         clear hfin hq
         go_wp2_with (go_at_call 194;refine (HJ.out _ BLw).mono ?_;rintro e w' ⟨rfl,rfl⟩)
         go_ret
         exact ⟨by rw [HF.out];rfl,BLw⟩
    ·obtain rfl : k = l.length:=by omega
     go_wp2
     go_ret
     exact ⟨by rw [landB_end hgd.out];rfl,BLw⟩
end Go.Proofs.YtnojgiflgmnjlaaGreatDoor.L1
namespace Go.Proofs.YtnojgiflgmnjlaaGreatDoor.L1.Op1
open Go.Proofs.YtnojgiflgmnjlaaGreatDoor
def errAt (bs : List UInt8) (p : Nat) : Int:=(one bs p).2.2
def nxt (bs : List UInt8) (p : Nat) : Nat:=p + szOf (at8 bs p)
inductive Pre (bs : List UInt8) : List Ins → Nat → Prop
 | nil : Pre bs [] 0
 | snoc {l : List Ins} {p : Nat} : Pre bs l p → errAt bs p = 0 → Pre bs (l ++ [insAt bs p]) (nxt bs p)
theorem one_ok {bs : List UInt8} {p : Nat} (h : errAt bs p = 0) : one bs p = (insAt bs p,((nxt bs p : Nat) : Int),0) ∧ p < nxt bs p ∧ nxt bs p ≤ bs.length:=by
 unfold errAt one at h
 unfold one nxt
 split at h
 ·cases h
 ·rename_i h0
  rw [if_neg h0]
  simp only [Int.toNat_natCast] at h ⊢
  split at h
  ·cases h
  ·rename_i h1
   rw [if_neg h1]
   split at h
   ·cases h
   ·rename_i h2
    rw [if_neg h2]
    split at h
    ·cases h
    ·rename_i h3
     rw [if_neg h3]
     have hs : 1 ≤ szOf (at8 bs p):=by
      unfold szOf
      cases h4 : isOp (at8 bs p) with
      | false=>exact absurd h4 h1
      | true=>simp
     refine ⟨?_,by omega,by omega⟩
     rw [Int.natCast_add]
theorem one_err {bs : List UInt8} {p : Nat} (h : errAt bs p ≠ 0) : one bs p = (noIns,0,errAt bs p):=by
 unfold errAt at h ⊢
 unfold one at h ⊢
 split at h
 ·rename_i h0;rw [if_pos h0]
 ·rename_i h0
  rw [if_neg h0]
  simp only [Int.toNat_natCast] at h ⊢
  split at h
  ·rename_i h1;rw [if_pos h1]
  ·rename_i h1
   rw [if_neg h1]
   split at h
   ·rename_i h2;rw [if_pos h2]
   ·rename_i h2
    rw [if_neg h2]
    split at h
    ·rename_i h3;rw [if_pos h3]
    ·exact absurd rfl h
theorem errAt_end {bs : List UInt8} {p : Nat} (h : bs.length ≤ p) : errAt bs p = 11:=by
 unfold errAt one;rw [if_pos (by omega)]
theorem Pre.le {bs : List UInt8} {l : List Ins} {p : Nat} (h : Pre bs l p) : p ≤ bs.length ∧ l.length ≤ p ∧ ∀ x ∈ l,0 ≤ x.p ∧ x.p < p:=by
 induction h with
 | nil=>exact ⟨by omega,by simp,fun x hx=>by cases hx⟩
 | @snoc l p _ he ih =>
  obtain ⟨-,h1,h2⟩:=one_ok he
  refine ⟨h2,by simp;omega,fun x hx=>?_⟩
  rcases List.mem_append.1 hx with hx|hx
  ·have:=ih.2.2 x hx;omega
  ·simp only [List.mem_singleton] at hx
   subst hx
   simp [insAt];omega
inductive DecOut (bs : List UInt8) : List Ins → Int → Prop
 | long : 4096 < bs.length → DecOut bs [] 3
 | none : bs.length = 0 → DecOut bs [] 11
 | bad {l : List Ins} {p : Nat} : bs.length ≤ 4096 → Pre bs l p → p < bs.length → errAt bs p ≠ 0 → DecOut bs [] (errAt bs p)
 | jump {l : List Ins} : bs.length ≤ 4096 → 0 < bs.length → Pre bs l bs.length → landB l bs.length = false → DecOut bs [] 12
 | ok {l : List Ins} : bs.length ≤ 4096 → 0 < bs.length → Pre bs l bs.length → landB l bs.length = true → DecOut bs l 0
theorem Pre.cmp {bs : List UInt8} {l l' : List Ins} {p p' : Nat} (h : Pre bs l p) (h' : Pre bs l' p') (hlt : l.length ≤ l'.length) : l'.take l.length = l ∧ (l.length < l'.length → errAt bs p = 0) ∧ (l.length = l'.length → l = l' ∧ p = p'):=by
 induction h' generalizing l p with
 | nil =>
  cases h with
  | nil=>exact ⟨rfl,fun h=>by simp at h,fun _=>⟨rfl,rfl⟩⟩
  | snoc h he=>simp at hlt
 | @snoc l1 p1 h1 he1 ih =>
  by_cases hl : l.length ≤ l1.length
  ·obtain ⟨a,b,c⟩:=ih h hl
   refine ⟨by rw [List.take_append_of_le_length hl];exact a,fun _=>?_,fun e=>by simp at e;omega⟩
   by_cases hq : l.length = l1.length
   ·rw [(c hq).2];exact he1
   ·exact b (by omega)
  ·have hq : l.length = l1.length + 1:=by simp at hlt;omega
   cases h with
   | nil=>simp at hq
   | @snoc l2 p2 h2 he2 =>
    obtain ⟨a,b,c⟩:=ih h2 (by simp at hq;omega)
    obtain ⟨rfl,rfl⟩:=c (by simpa using hq)
    exact ⟨List.take_length,fun h=>by simp at h,fun _=>⟨rfl,rfl⟩⟩
theorem Pre.same {bs : List UInt8} {l l' : List Ins} {p p' : Nat} (h : Pre bs l p) (h' : Pre bs l' p') (e : errAt bs p ≠ 0) (e' : errAt bs p' ≠ 0) : l = l' ∧ p = p':=by
 rcases Nat.lt_trichotomy l.length l'.length with hl|hl|hl
 ·exact absurd ((h.cmp h' (by omega)).2.1 hl) e
 ·exact (h.cmp h' (by omega)).2.2 hl
 ·exact absurd ((h'.cmp h (by omega)).2.1 hl) e'
theorem DecOut.det {bs : List UInt8} {l l' : List Ins} {e e' : Int} (h : DecOut bs l e) (h' : DecOut bs l' e') : l = l' ∧ e = e':=by
 have hend : errAt bs bs.length ≠ 0:=by rw [errAt_end (Nat.le_refl _)];decide
 cases h with
 | long h1=>cases h' <;> first|exact ⟨rfl,rfl⟩|omega
 | none h1=>cases h' <;> first|exact ⟨rfl,rfl⟩|omega
 | bad h1 h2 h3 h4 =>
  cases h' with
  | long=>omega
  | none=>omega
  | bad k1 k2 k3 k4 =>
   obtain ⟨-,rfl⟩:=h2.same k2 h4 k4
   exact ⟨rfl,rfl⟩
  | jump k1 k2 k3 k4=>have:=(h2.same k3 h4 hend).2;omega
  | ok k1 k2 k3 k4=>have:=(h2.same k3 h4 hend).2;omega
 | jump h1 h2 h3 h4 =>
  cases h' with
  | long=>omega
  | none=>omega
  | bad k1 k2 k3 k4=>have:=(h3.same k2 hend k4).2;omega
  | jump k1 k2 k3 k4=>exact ⟨rfl,rfl⟩
  | ok k1 k2 k3 k4 =>
   obtain ⟨rfl,-⟩:=h3.same k3 hend hend
   rw [h4] at k4;cases k4
 | ok h1 h2 h3 h4 =>
  cases h' with
  | long=>omega
  | none=>omega
  | bad k1 k2 k3 k4=>have:=(h3.same k2 hend k4).2;omega
  | jump k1 k2 k3 k4 =>
   obtain ⟨rfl,-⟩:=h3.same k3 hend hend
   rw [h4] at k4;cases k4
  | ok k1 k2 k3 k4=>exact ⟨(h3.same k3 hend hend).1,rfl⟩
end Go.Proofs.YtnojgiflgmnjlaaGreatDoor.L1.Op1
namespace Go.Proofs.YtnojgiflgmnjlaaGreatDoor.L1
open Go.RowKit
def OwnI (w : World) (base : Nat) (v : Value) (l : List Op1.Ins) : Prop:=w.ownsRow base 192 4 v l.length (insCells l)
def DecPost (bs : List UInt8) (w : World) (e : Ending) (w' : World) : Prop :=
 ∃ (v : Value) (l : List Op1.Ins) (er : Int),e = .returned (.tuple #[v,.int .i64 er]) ∧ Op1.DecOut bs l er ∧ OwnI w' w.heap.size v l ∧ Below w.heap.size w w'
theorem nilI (w : World) (base : Nat) : OwnI w base (.slice none 0 0) []:=⟨rfl,.inl ⟨rfl,rfl⟩⟩
theorem insCells_snoc (l : List Op1.Ins) (x : Op1.Ins) : insCells (l ++ [x]) = insCells l ++ insC x:=by unfold insCells;simp
theorem A.info35 : (Tryz.prog.info? 192).map (fun i=>(i.zero,i.size,i.bytes)) = some (some (.agg #[.int .i64 0,.int .i64 0,.int .i64 0,.int .i64 0]),4,32):=by kernel_rfl
set_option maxHeartbeats 400000 in
theorem decode_any (bs : List UInt8) (v : Value) (w : World) (ht : Tabs w) (hb : IsB w v bs) :
  Calls Tryz.prog 153 #[v] w (DecPost bs w):=by
 have HB:=hid hb
 have HT:=hid ht
 have hlen:=hb.1
 obtain ⟨a,cap,hv⟩:=hb.len
 subst hv
 clear hb ht
 obtain ⟨i0,hi,hz0,hz1,hz2⟩:=info_parts A.info35
 by_cases h1 : 4096 < bs.length
 ·have hd : decide (4096 < (bs.length : Int)) = true:=by simp;omega
  go_enter Tryz.func153,Tryz.ntmps153
  go_wp2
  go_ret2
  exact ⟨_,_,_,rfl,.long h1,nilI _ _,BLw⟩
 ·have hd : decide (4096 < (bs.length : Int)) = false:=by simp;omega
  by_cases h2 : bs.length = 0
  ·have hd2 : ((bs.length : Int) == 0) = true:=by rw [beq_iff_eq];omega
   have H2:=hid h2
   clear h2
   go_enter Tryz.func153,Tryz.ntmps153
   go_wp2
   go_ret2
   exact ⟨_,_,_,rfl,.none H2.out,nilI _ _,BLw⟩
  ·have hd2 : ((bs.length : Int) == 0) = false:=by rw [beq_eq_false_iff_ne];omega
   have hle : bs.length ≤ 4096:=by omega
   have hpos : 0 < bs.length:=by omega
   clear h1 h2
   go_enter Tryz.func153,Tryz.ntmps153
   go_wp2
   go_loopw [4,5] (fun v i wr=>∃ (l : List Op1.Ins) (p : Nat),i = .int .i64 p ∧ Op1.Pre bs l p ∧ OwnI wr w.heap.size v l ∧ Below w.heap.size w wr) (fun _ i _=>bs.length - (intOf i).toNat)
   case atStart=>exact ⟨[],0,rfl,.nil,nilI _ _,BLw⟩
   case round =>
    obtain ⟨l,p,rfl,hpre,hown,hbl⟩:=hrel
    by_cases hlt : p < bs.length
    ·have H1:=hid (fun W (h : Below wr.heap.size wr W)=>one_any bs _ p W ((HT.out.below hbl HT.out.size).below h (HT.out.below hbl HT.out.size).size) ((HB.out.below hbl (Nat.le_refl _)).below h (Nat.le_refl _)))
     by_cases he : Op1.errAt bs p = 0
     ·obtain ⟨ho,hn1,hn2⟩:=Op1.one_ok he
      rw [ho] at H1
      obtain ⟨x,hx⟩ : ∃ x,x = Op1.insAt bs p:=⟨_,rfl⟩
      rw [← hx] at H1
      unfold oneV insV at H1
      have hpl:=hpre.le
      have HE:=hid he
      have HPre:=hid hpre
      have HX:=hid hx
      have hlen2 : l.length ≤ 4096:=by omega
      clear he ho hpre hx
      obtain ⟨q,hq⟩ : ∃ q,q = Op1.nxt bs p:=⟨_,rfl⟩
      rw [← hq] at H1 hn1 hn2
      have HQ:=hid hq
      clear hq
      go_wp2_with (first
       | (go_at_call 178;refine (H1.out _ BLw).mono ?_;rintro e w' ⟨rfl,hb⟩;have hown2:=Kit.owns_below hown hb (Nat.le_refl _))
       | (at_builtin;refine wpList_append_own _ rfl (.tmp 29) (.tmp 31) 187 rfl w.heap.size 192 i0 _ 4 32 Tryz.underlying187 hi hz0 hz1 hz2 rfl (by decide) _ l.length (insCells l) rfl ((hown2.alloc _).alloc _) ⟨w'.heap.size + 1,0,none⟩ 1 1 [.int .i64 x.p,.int .i64 x.op,.int .i64 x.a,.int .i64 x.b] rfl rfl ?c1 ?c2 ?c3 ?c4 ?c5 ?_))
      case c1 =>
       intro j u hj
       match j,hj with
       | 0,hj=>simp at hj;subst hj;simp [Addr.add,go_sem]
       | 1,hj=>simp at hj;subst hj;simp [Addr.add,go_sem]
       | 2,hj=>simp at hj;subst hj;simp [Addr.add,go_sem]
       | 3,hj=>simp at hj;subst hj;simp [Addr.add,go_sem]
      case c2=>intro u hu;simp at hu;rcases hu with rfl|rfl|rfl|rfl <;> rfl
      case c3=>unfold maxLen;omega
      case c4=>omega
      case c5=>have:=hbl.size;have:=hb.size;simp;omega
      ·intro v' w1 hown' hgrow _
       have hbw : Below w.heap.size w w1:=Kit.below_grown (belows hbl (hb.mono (Nat.le_refl _)) hbl.size |>.alloc (by have:=hbl.size;have:=hb.size;omega) _ |>.alloc (by have:=hbl.size;have:=hb.size;simp;omega) _) hgrow (by have:=hbl.size;have:=hb.size;simp;omega) (Kit.own_base hown)
       have hown3 : OwnI w1 w.heap.size v' (l ++ [x]):=by
        unfold OwnI
        rw [insCells_snoc]
        simpa [insC] using hown'
       clear hown' hgrow hown hown2 hb hbl
       go_wp2
       go_roundw
       case rel=>exact ⟨l ++ [x],q,rfl,by rw [HX.out,HQ.out];exact HPre.out.snoc HE.out,hown3,hbw⟩
       case measure=>simp [intOf];omega
     ·have ho:=Op1.one_err he
      rw [ho] at H1
      have hb1 : (Op1.errAt bs p != 0) = true:=by simpa using he
      unfold oneV insV Op1.noIns at H1
      obtain ⟨er,her⟩ : ∃ er,er = Op1.errAt bs p:=⟨_,rfl⟩
      rw [← her] at H1 hb1
      have hbad:=Op1.DecOut.bad hle hpre hlt he
      rw [← her] at hbad
      have HBad:=hid hbad
      clear he ho hpre her hbad
      go_wp2_with (go_at_call 178;refine (H1.out _ BLw).mono ?_;rintro e w' ⟨rfl,hb⟩)
      go_ret2
      have hbw:=belows hbl hb hbl.size
      have hz1:=hbl.size
      have hz2:=hb.size
      exact ⟨_,_,_,rfl,HBad.out,nilI _ _,BLw⟩
    ·have hpl:=hpre.le
     have HPre:=hid hpre
     have hend : p = bs.length:=by omega
     subst hend
     have hlq : l.length ≤ 140737488355328:=by omega
     have HJ:=hid (fun W (h : Below wr.heap.size wr W)=>jumpsLand_any l u4 bs.length W ((HT.out.below hbl HT.out.size).below h (HT.out.below hbl HT.out.size).size) ((Kit.isS_of_owns hown hlq).below h (Nat.le_refl _)) hpl.2.2 hlen)
     cases hL : landB l bs.length with
     | true =>
      rw [hL] at HJ
      have hok:=Op1.DecOut.ok hle hpos hpre hL
      have HOk:=hid hok
      clear hpl hL hpre hok
      go_wp2_with (go_at_call 179;refine (HJ.out _ BLw).mono ?_;rintro e w' ⟨rfl,hb⟩)
      go_ret2
      exact ⟨_,_,_,rfl,HOk.out,Kit.owns_below hown hb (Nat.le_refl _),belows hbl hb hbl.size⟩
     | false =>
      rw [hL] at HJ
      have hok:=Op1.DecOut.jump hle hpos hpre hL
      have HOk:=hid hok
      clear hpl hL hpre hok
      go_wp2_with (go_at_call 179;refine (HJ.out _ BLw).mono ?_;rintro e w' ⟨rfl,hb⟩)
      go_ret2
      exact ⟨_,_,_,rfl,HOk.out,nilI _ _,belows hbl hb hbl.size⟩
end Go.Proofs.YtnojgiflgmnjlaaGreatDoor.L1
namespace Go.Proofs.YtnojgiflgmnjlaaGreatDoor.L1
open Go.RowKit
def byteVals (bs : List UInt8) : List Value:=bs.map fun b=>.int .u8 ((b.toNat : Nat) : Int)
theorem A.info5 : (Tryz.prog.info? 5).map (fun i=>(i.zero,i.size,i.bytes)) = some (some (.int .u8 0),1,1):=by kernel_rfl
theorem news_two (w : World) (x y : Value) (t : TypeId) : ∀ j u,[x,y][j]? = some u → (w.alloc (.cells #[x,y] t)).cell? ((⟨w.heap.size,0,none⟩ : Addr).add j) = some u:=by
 intro j u h
 match j,h with
 | 0,h =>
  simp only [List.getElem?_cons_zero,Option.some.injEq] at h
  subst h
  show (w.alloc (.cells #[x,y] t)).cell? ⟨w.heap.size,0,none⟩ = some x
  rw [World.cell?_alloc_new];rfl
 | 1,h =>
  simp only [List.getElem?_cons_succ,List.getElem?_cons_zero,Option.some.injEq] at h
  subst h
  show (w.alloc (.cells #[x,y] t)).cell? ⟨w.heap.size,1,none⟩ = some y
  rw [World.cell?_alloc_new];rfl
 | j + 2,h=>simp at h
end Go.Proofs.YtnojgiflgmnjlaaGreatDoor.L1
namespace Go.Proofs.YtnojgiflgmnjlaaGreatDoor.L1
open Go.RowKit
theorem owns_empty {w : World} {base : Nat} {e : TypeId} {size : Nat} (hB : base ≤ w.heap.size) : (w.alloc (.cells #[] e)).ownsRow base e size (.slice (some ⟨w.heap.size,0,none⟩) 0 0) 0 [] :=
 ⟨by simp,.inr ⟨w.heap.size,0,#[],rfl,hB,heap_alloc_last w _,by omega,by unfold maxLen;omega,by simp,by simp⟩⟩
def ClonePost (e : TypeId) (size n : Nat) (xs : List Value) (w : World) (en : Ending) (w' : World) : Prop:=∃ v,en = .returned v ∧ w'.ownsRow w.heap.size e size v n xs ∧ Below w.heap.size w w'
set_option maxHeartbeats 400000 in
theorem bclone_some (bs : List UInt8) (ad : Addr) (cap : Nat) (w : World) (hn : bs.length ≤ 140737488355328) (hc : ∀ j u,(byteVals bs)[j]? = some u → w.cell? (ad.add j) = some u) : Calls Tryz.prog 129 #[.slice (some ad) bs.length cap] w (ClonePost 5 1 bs.length (byteVals bs) w):=by
 obtain ⟨i0,hi,hz0,hz1,hz2⟩:=info_parts A.info5
 have hnil:=fun (W : World) (a : Option Addr) (n c : Nat)=>Lib.run_eql_slice_nil (P:=Tryz.prog) W 22 5 a n c 0 0 Tryz.underlying22
 have hlt : ∀ j u,(byteVals bs)[j]? = some u → (w.alloc (.cells #[] 5)).cell? (ad.add j) = some u:=fun j u h=>by
  have h2:=hc j u h
  rw [World.cell?_alloc_lt _ _ _ (World.block_lt_of_cell? w _ h2)]
  exact h2
 have HL:=hid hlt
 have hlen : (byteVals bs).length = bs.length * 1:=by unfold byteVals;simp
 have HLen:=hid hlen
 have h1c : ∀ u ∈ byteVals bs,u.oneCell' = true:=by
  intro u hu
  unfold byteVals at hu
  rw [List.mem_map] at hu
  obtain ⟨b,-,rfl⟩:=hu
  rfl
 have H1:=hid h1c
 clear hc hlt hlen h1c
 go_enter Tryz.func129,Tryz.ntmps129
 go_wp2_with (at_builtin;go_loud (refine wpList_append_own _ rfl (.tmp 5) (.tmp 6) 22 rfl w.heap.size 5 i0 _ 1 1 Tryz.underlying22 hi hz0 hz1 hz2 rfl (by decide) _ 0 [] rfl (owns_empty (Nat.le_refl _)) ad bs.length cap (byteVals bs) rfl HLen.out HL.out H1.out (by unfold maxLen;omega) (by omega) (by simp) ?_);intro v1 w1 hown1 hgrow1 _)
 go_ret
 refine ⟨_,rfl,by simpa using hown1,Kit.below_grown BLw hgrow1 (by simp) (fun k hk=>?_)⟩
 have : some w.heap.size = some k:=hk
 exact Nat.le_of_eq (Option.some.inj this)
theorem bclone_nil (c : Nat) (w : World) : Calls Tryz.prog 129 #[.slice none 0 c] w (ClonePost 5 1 0 [] w):=by
 have hnil:=fun (W : World) (a : Option Addr) (n c : Nat)=>Lib.run_eql_slice_nil (P:=Tryz.prog) W 22 5 a n c 0 0 Tryz.underlying22
 go_enter Tryz.func129,Tryz.ntmps129
 go_wp2
 go_ret
 exact ⟨_,rfl,⟨rfl,.inl ⟨rfl,rfl⟩⟩,BLw⟩
theorem bclone_any (bs : List UInt8) (v : Value) (w : World) (hb : IsB w v bs) : Calls Tryz.prog 129 #[v] w (ClonePost 5 1 bs.length (byteVals bs) w):=by
 rcases hb.2 with ⟨rfl,a,cap,rfl⟩|⟨b,o,cap,rfl,hl,hlt,hc⟩
 ·cases a with
  | none=>exact bclone_nil cap w
  | some ad=>exact bclone_some [] ad cap w (by simp) (fun j u h=>by simp [byteVals] at h)
 ·refine bclone_some bs ⟨b,o,none⟩ cap w hb.1 (fun j u h=>?_)
  unfold byteVals at h
  rw [List.getElem?_map,Option.map_eq_some_iff] at h
  obtain ⟨x,hx,rfl⟩:=h
  have hj : j < bs.length:=by rw [List.getElem?_eq_some_iff] at hx;exact hx.1
  rw [Go.WideShapes.add_plain,hc j hj]
  unfold Op1.at8
  rw [List.getD_eq_getElem?_getD,hx];rfl
end Go.Proofs.YtnojgiflgmnjlaaGreatDoor.L1
namespace Go.Proofs.YtnojgiflgmnjlaaGreatDoor.L1
open Go.RowKit
theorem ro_cells {w w1 : World} {a b : Int} (h : Below ((w.alloc (.cells #[.int .i64 0,.int .i64 0,.int .i64 0,.int .i64 0] 192)).alloc (.cells #[.int .i64 a,.int .i64 b,.int .i64 0,.int .i64 0] 192)).heap.size ((w.alloc (.cells #[.int .i64 0,.int .i64 0,.int .i64 0,.int .i64 0] 192)).alloc (.cells #[.int .i64 a,.int .i64 b,.int .i64 0,.int .i64 0] 192)) w1) :
  w1.cell? ⟨w.heap.size,0,none⟩ = some (.int .i64 0) ∧ w1.cell? ⟨w.heap.size,1,none⟩ = some (.int .i64 0) ∧ w1.cell? ⟨w.heap.size,2,none⟩ = some (.int .i64 0) ∧ w1.cell? ⟨w.heap.size,3,none⟩ = some (.int .i64 0) ∧
  w1.cell? ⟨w.heap.size + 1,0,none⟩ = some (.int .i64 a) ∧ w1.cell? ⟨w.heap.size + 1,1,none⟩ = some (.int .i64 b) ∧ w1.cell? ⟨w.heap.size + 1,2,none⟩ = some (.int .i64 0) ∧ w1.cell? ⟨w.heap.size + 1,3,none⟩ = some (.int .i64 0):=by
 obtain ⟨hcc,-⟩:=bcell h
 have h0 : ∀ j,w1.cell? ⟨w.heap.size,j,none⟩ = (#[Value.int .i64 0,.int .i64 0,.int .i64 0,.int .i64 0])[j]?:=fun j=>by
  rw [hcc _ _ (by simp only [World.size_alloc];omega),World.cell?_alloc_past _ _ _ (by simp),World.cell?_alloc_at _ _ _ _ rfl]
 have h1 : ∀ j,w1.cell? ⟨w.heap.size + 1,j,none⟩ = (#[Value.int .i64 a,.int .i64 b,.int .i64 0,.int .i64 0])[j]?:=fun j=>by
  rw [hcc _ _ (by simp only [World.size_alloc];omega),World.cell?_alloc_at _ _ _ _ (by simp)]
 exact ⟨h0 0,h0 1,h0 2,h0 3,h1 0,h1 1,h1 2,h1 3⟩
theorem ro_old {w w1 : World} {x y : Obj} (h : Below ((w.alloc x).alloc y).heap.size ((w.alloc x).alloc y) w1) {b : Nat} (hb : b < w.heap.size) (j : Nat) : w1.cell? ⟨b,j,none⟩ = w.cell? ⟨b,j,none⟩:=by
 obtain ⟨hcc,-⟩:=bcell h
 rw [hcc _ _ (by simp only [World.size_alloc];omega),World.cell?_alloc_past _ _ _ (by simp;omega),World.cell?_alloc_past _ _ _ hb]
theorem signed8 (c : Nat) (w : World) (hc : c < 256) : Calls Tryz.prog 208 #[.int .i64 c,.int .i64 8] w fun e w'=>e = .returned (.int .i64 (Op1.s8 c)) ∧ w = w':=by
 unfold Op1.s8
 by_cases h : 128 ≤ c
 ·rw [if_pos h]
  have hd : decide (128 ≤ (c : Int)) = true:=by simp;omega
  have hc2 : (c : Int) < 256:=by omega
  have hc3 : 128 ≤ (c : Int):=by omega
  go_enter Tryz.func208,Tryz.ntmps208
  go_wp2
  go_ret
  exact ⟨rfl,rfl⟩
 ·rw [if_neg h]
  have hd : decide (128 ≤ (c : Int)) = false:=by simp;omega
  go_enter Tryz.func208,Tryz.ntmps208
  go_wp2
  go_ret
  exact ⟨rfl,rfl⟩
theorem signed16 (c : Nat) (w : World) (hc : c < 65536) : Calls Tryz.prog 208 #[.int .i64 c,.int .i64 16] w fun e w'=>e = .returned (.int .i64 (Op1.s16 c)) ∧ w = w':=by
 unfold Op1.s16
 by_cases h : 32768 ≤ c
 ·rw [if_pos h]
  have hd : decide (32768 ≤ (c : Int)) = true:=by simp;omega
  have hc2 : (c : Int) < 65536:=by omega
  have hc3 : 32768 ≤ (c : Int):=by omega
  go_enter Tryz.func208,Tryz.ntmps208
  go_wp2
  go_ret
  exact ⟨rfl,rfl⟩
 ·rw [if_neg h]
  have hd : decide (32768 ≤ (c : Int)) = false:=by simp;omega
  go_enter Tryz.func208,Tryz.ntmps208
  go_wp2
  go_ret
  exact ⟨rfl,rfl⟩
theorem rone_out (a : Option Addr) (n cap : Nat) (p : Int) (w : World) (h : p < 0 ∨ (n : Int) ≤ p) :
  Calls Tryz.prog 195 #[.slice a n cap,.int .i64 p] w fun e w'=>e = .returned (oneV (Op1.noIns,0,11)) ∧ Below w.heap.size w w':=by
 unfold oneV insV Op1.noIns
 rcases h with h|h
 ·have hd : decide (p < 0) = true:=by simpa using h
  go_enter Tryz.func195,Tryz.ntmps195
  go_wp2
  exact bodyPost_ret (v:=.tuple #[.agg #[.int .i64 0,.int .i64 0,.int .i64 0,.int .i64 0],.int .i64 0,.int .i64 11]) (by simp [results,Tryz.results195,go_sem]) rfl ⟨rfl,BLw⟩
 ·have hd : decide (p < 0) = false:=by simp;omega
  go_enter Tryz.func195,Tryz.ntmps195
  go_wp2
  exact bodyPost_ret (v:=.tuple #[.agg #[.int .i64 0,.int .i64 0,.int .i64 0,.int .i64 0],.int .i64 0,.int .i64 11]) (by simp [results,Tryz.results195,go_sem]) rfl ⟨rfl,BLw⟩
theorem rone_noop (b o n cap k c : Nat) (w : World) (hk : k < n) (hc8 : c < 256) (hc : w.cell? ⟨b,o + k,none⟩ = some (.int .u8 c)) (hop : Op1.isOp c = false) :
  Calls Tryz.prog 195 #[.slice (some ⟨b,o,none⟩) n cap,.int .i64 k] w fun e w'=>e = .returned (oneV (Op1.noIns,0,10)) ∧ Below w.heap.size w w':=by
 unfold oneV insV Op1.noIns
 have hform:=fun W=>rform_any c W
 unfold isV at hform
 rw [hop] at hform
 have HForm:=hid hform
 generalize Op1.formOf (c : Int) = f at *
 have hlt:=World.block_lt_of_cell? w _ hc
 have hd : decide ((k : Int) < 0) = false:=by simp
 clear hform hop
 go_enter Tryz.func195,Tryz.ntmps195
 go_wp2_with (first|(go_at_call 196;refine (HForm.out _).mono ?_;rintro e w1 ⟨rfl,hb1⟩;obtain ⟨hcc,hff⟩:=bcell hb1;have hz1:=hb1.size;simp only [World.size_alloc] at hz1;have hz2 : w.heap.size + 1 < w1.heap.size:=(by omega);have hz3 : w.heap.size < w1.heap.size:=(by omega);obtain ⟨q0,q1,q2,q3,r0,r1,r2,r3⟩:=ro_cells hb1;(try (have hp1:=(ro_old hb1 hlt _).trans hp));(try (have hq1:=(ro_old hb1 hlt _).trans hq)))|(go_at_call 207;refine (HBeh.out _).mono ?_;rintro e w3 ⟨rfl,rfl⟩)|(go_at_call 208;refine (HSg.out _).mono ?_;rintro e w3 ⟨rfl,rfl⟩))
 have hb':=(belows (B:=w.heap.size) (a:=w) BLw hb1 (by simp only [World.size_alloc];omega))
 exact bodyPost_ret (v:=.tuple #[.agg #[.int .i64 0,.int .i64 0,.int .i64 0,.int .i64 0],.int .i64 0,.int .i64 10]) (by simp [results,Tryz.results195,go_sem,q0,q1,q2,q3]) rfl ⟨rfl,BLw⟩
theorem rone_cut (b o n cap k c f y : Nat) (w : World) (hk : k < n) (hn : n ≤ 140737488355328) (hc8 : c < 256) (hc : w.cell? ⟨b,o + k,none⟩ = some (.int .u8 c)) (hop : Op1.isOp c = true) (hf : Op1.formOf c = f) (hf8 : f ≤ 8) (hy : Op1.bh f = y) (hcut : n - k - 1 < y) :
  Calls Tryz.prog 195 #[.slice (some ⟨b,o,none⟩) n cap,.int .i64 k] w fun e w'=>e = .returned (oneV (Op1.noIns,0,11)) ∧ Below w.heap.size w w':=by
 unfold oneV insV Op1.noIns
 have hform:=fun W=>rform_any c W
 unfold isV at hform
 rw [hop,hf] at hform
 have HForm:=hid hform
 have hbeh:=fun W=>rbehind_any f W hf8
 rw [hy] at hbeh
 have HBeh:=hid hbeh
 have hlt:=World.block_lt_of_cell? w _ hc
 have hd : decide ((k : Int) < 0) = false:=by simp
 have hd2 : decide ((n : Int) - (k : Int) - 1 < (y : Int)) = true:=by simp;omega
 clear hform hop hbeh hf hy hcut
 go_enter Tryz.func195,Tryz.ntmps195
 go_wp2_with (first|(go_at_call 196;refine (HForm.out _).mono ?_;rintro e w1 ⟨rfl,hb1⟩;obtain ⟨hcc,hff⟩:=bcell hb1;have hz1:=hb1.size;simp only [World.size_alloc] at hz1;have hz2 : w.heap.size + 1 < w1.heap.size:=(by omega);have hz3 : w.heap.size < w1.heap.size:=(by omega);obtain ⟨q0,q1,q2,q3,r0,r1,r2,r3⟩:=ro_cells hb1;(try (have hp1:=(ro_old hb1 hlt _).trans hp));(try (have hq1:=(ro_old hb1 hlt _).trans hq)))|(go_at_call 207;refine (HBeh.out _).mono ?_;rintro e w3 ⟨rfl,rfl⟩)|(go_at_call 208;refine (HSg.out _).mono ?_;rintro e w3 ⟨rfl,rfl⟩))
 have hb':=(belows (B:=w.heap.size) (a:=w) BLw hb1 (by simp only [World.size_alloc];omega))
 exact bodyPost_ret (v:=.tuple #[.agg #[.int .i64 0,.int .i64 0,.int .i64 0,.int .i64 0],.int .i64 0,.int .i64 11]) (by simp [results,Tryz.results195,go_sem,q0,q1,q2,q3]) rfl ⟨rfl,BLw⟩
end Go.Proofs.YtnojgiflgmnjlaaGreatDoor.L1
namespace Go.Proofs.YtnojgiflgmnjlaaGreatDoor.L1
open Go.RowKit
set_option maxHeartbeats 1000000 in
theorem rone_f0 (b o n cap k c : Nat) (w : World) (hk : k + 1 + 0 ≤ n) (hn : n ≤ 140737488355328) (hc8 : c < 256) (hc : w.cell? ⟨b,o + k,none⟩ = some (.int .u8 c)) (hop : Op1.isOp c = true) (hf : Op1.formOf c = 0) :
  Calls Tryz.prog 195 #[.slice (some ⟨b,o,none⟩) n cap,.int .i64 k] w fun e w'=>e = .returned (oneV (⟨k,c,0,0⟩,k + 1 + 0,0)) ∧ Below w.heap.size w w':=by
 unfold oneV insV
 have hform:=fun W=>rform_any c W
 unfold isV at hform
 rw [hop,hf] at hform
 have HForm:=hid hform
 have hbeh:=fun W=>rbehind_any 0 W (by omega)
 rw [show Op1.bh 0 = 0 by decide +kernel] at hbeh
 have HBeh:=hid hbeh
 have hlt:=World.block_lt_of_cell? w _ hc
 have hd : decide ((k : Int) < 0) = false:=by simp
 have hd2 : decide ((n : Int) - (k : Int) - 1 < (0 : Int)) = false:=by simp;omega
 have hk1 : (k : Int) < n:=by omega
 clear hform hop hbeh hf
 go_enter Tryz.func195,Tryz.ntmps195
 go_wp2_with (first|(go_at_call 196;refine (HForm.out _).mono ?_;rintro e w1 ⟨rfl,hb1⟩;obtain ⟨hcc,hff⟩:=bcell hb1;have hz1:=hb1.size;simp only [World.size_alloc] at hz1;have hz2 : w.heap.size + 1 < w1.heap.size:=(by omega);have hz3 : w.heap.size < w1.heap.size:=(by omega);obtain ⟨q0,q1,q2,q3,r0,r1,r2,r3⟩:=ro_cells hb1;(try (have hp1:=(ro_old hb1 hlt _).trans hp));(try (have hq1:=(ro_old hb1 hlt _).trans hq)))|(go_at_call 207;refine (HBeh.out _).mono ?_;rintro e w3 ⟨rfl,rfl⟩)|(go_at_call 208;refine (HSg.out _).mono ?_;rintro e w3 ⟨rfl,rfl⟩))
 have hb':=(belows (B:=w.heap.size) (a:=w) BLw hb1 (by simp only [World.size_alloc];omega))
 exact bodyPost_ret (v:=.tuple #[.agg #[.int .i64 k,.int .i64 c,.int .i64 (0),.int .i64 (0)],.int .i64 (k + 1 + 0),.int .i64 0]) (by simp [results,Tryz.results195,go_sem,q0,q1,q2,q3]) rfl ⟨rfl,BLw⟩
set_option maxHeartbeats 1000000 in
theorem rone_f1 (b o n cap k c cp : Nat) (w : World) (hk : k + 1 + 1 ≤ n) (hn : n ≤ 140737488355328) (hc8 : c < 256) (hc : w.cell? ⟨b,o + k,none⟩ = some (.int .u8 c)) (hp8 : cp < 256) (hp : w.cell? ⟨b,o + (k + 1),none⟩ = some (.int .u8 cp)) (hop : Op1.isOp c = true) (hf : Op1.formOf c = 1) :
  Calls Tryz.prog 195 #[.slice (some ⟨b,o,none⟩) n cap,.int .i64 k] w fun e w'=>e = .returned (oneV (⟨k,c,cp,0⟩,k + 1 + 1,0)) ∧ Below w.heap.size w w':=by
 unfold oneV insV
 have hform:=fun W=>rform_any c W
 unfold isV at hform
 rw [hop,hf] at hform
 have HForm:=hid hform
 have hbeh:=fun W=>rbehind_any 1 W (by omega)
 rw [show Op1.bh 1 = 1 by decide +kernel] at hbeh
 have HBeh:=hid hbeh
 have hlt:=World.block_lt_of_cell? w _ hc
 have hd : decide ((k : Int) < 0) = false:=by simp
 have hd2 : decide ((n : Int) - (k : Int) - 1 < (1 : Int)) = false:=by simp;omega
 have hk1 : (k : Int) < n:=by omega
 have hk2 : (k : Int) + 1 < n:=by omega
 clear hform hop hbeh hf
 go_enter Tryz.func195,Tryz.ntmps195
 go_wp2_with (first|(go_at_call 196;refine (HForm.out _).mono ?_;rintro e w1 ⟨rfl,hb1⟩;obtain ⟨hcc,hff⟩:=bcell hb1;have hz1:=hb1.size;simp only [World.size_alloc] at hz1;have hz2 : w.heap.size + 1 < w1.heap.size:=(by omega);have hz3 : w.heap.size < w1.heap.size:=(by omega);obtain ⟨q0,q1,q2,q3,r0,r1,r2,r3⟩:=ro_cells hb1;(try (have hp1:=(ro_old hb1 hlt _).trans hp));(try (have hq1:=(ro_old hb1 hlt _).trans hq)))|(go_at_call 207;refine (HBeh.out _).mono ?_;rintro e w3 ⟨rfl,rfl⟩)|(go_at_call 208;refine (HSg.out _).mono ?_;rintro e w3 ⟨rfl,rfl⟩))
 have hb':=(belows (B:=w.heap.size) (a:=w) BLw hb1 (by simp only [World.size_alloc];omega))
 exact bodyPost_ret (v:=.tuple #[.agg #[.int .i64 k,.int .i64 c,.int .i64 (cp),.int .i64 (0)],.int .i64 (k + 1 + 1),.int .i64 0]) (by simp [results,Tryz.results195,go_sem,q0,q1,q2,q3]) rfl ⟨rfl,BLw⟩
set_option maxHeartbeats 1000000 in
theorem rone_f4 (b o n cap k c cp : Nat) (w : World) (hk : k + 1 + 1 ≤ n) (hn : n ≤ 140737488355328) (hc8 : c < 256) (hc : w.cell? ⟨b,o + k,none⟩ = some (.int .u8 c)) (hp8 : cp < 256) (hp : w.cell? ⟨b,o + (k + 1),none⟩ = some (.int .u8 cp)) (hop : Op1.isOp c = true) (hf : Op1.formOf c = 4) :
  Calls Tryz.prog 195 #[.slice (some ⟨b,o,none⟩) n cap,.int .i64 k] w fun e w'=>e = .returned (oneV (⟨k,c,cp,0⟩,k + 1 + 1,0)) ∧ Below w.heap.size w w':=by
 unfold oneV insV
 have hform:=fun W=>rform_any c W
 unfold isV at hform
 rw [hop,hf] at hform
 have HForm:=hid hform
 have hbeh:=fun W=>rbehind_any 4 W (by omega)
 rw [show Op1.bh 4 = 1 by decide +kernel] at hbeh
 have HBeh:=hid hbeh
 have hlt:=World.block_lt_of_cell? w _ hc
 have hd : decide ((k : Int) < 0) = false:=by simp
 have hd2 : decide ((n : Int) - (k : Int) - 1 < (1 : Int)) = false:=by simp;omega
 have hk1 : (k : Int) < n:=by omega
 have hk2 : (k : Int) + 1 < n:=by omega
 clear hform hop hbeh hf
 go_enter Tryz.func195,Tryz.ntmps195
 go_wp2_with (first|(go_at_call 196;refine (HForm.out _).mono ?_;rintro e w1 ⟨rfl,hb1⟩;obtain ⟨hcc,hff⟩:=bcell hb1;have hz1:=hb1.size;simp only [World.size_alloc] at hz1;have hz2 : w.heap.size + 1 < w1.heap.size:=(by omega);have hz3 : w.heap.size < w1.heap.size:=(by omega);obtain ⟨q0,q1,q2,q3,r0,r1,r2,r3⟩:=ro_cells hb1;(try (have hp1:=(ro_old hb1 hlt _).trans hp));(try (have hq1:=(ro_old hb1 hlt _).trans hq)))|(go_at_call 207;refine (HBeh.out _).mono ?_;rintro e w3 ⟨rfl,rfl⟩)|(go_at_call 208;refine (HSg.out _).mono ?_;rintro e w3 ⟨rfl,rfl⟩))
 have hb':=(belows (B:=w.heap.size) (a:=w) BLw hb1 (by simp only [World.size_alloc];omega))
 exact bodyPost_ret (v:=.tuple #[.agg #[.int .i64 k,.int .i64 c,.int .i64 (cp),.int .i64 (0)],.int .i64 (k + 1 + 1),.int .i64 0]) (by simp [results,Tryz.results195,go_sem,q0,q1,q2,q3]) rfl ⟨rfl,BLw⟩
set_option maxHeartbeats 1000000 in
theorem rone_f2 (b o n cap k c cp : Nat) (w : World) (hk : k + 1 + 1 ≤ n) (hn : n ≤ 140737488355328) (hc8 : c < 256) (hc : w.cell? ⟨b,o + k,none⟩ = some (.int .u8 c)) (hp8 : cp < 256) (hp : w.cell? ⟨b,o + (k + 1),none⟩ = some (.int .u8 cp)) (hop : Op1.isOp c = true) (hf : Op1.formOf c = 2) :
  Calls Tryz.prog 195 #[.slice (some ⟨b,o,none⟩) n cap,.int .i64 k] w fun e w'=>e = .returned (oneV (⟨k,c,Op1.s8 cp,0⟩,k + 1 + 1,0)) ∧ Below w.heap.size w w':=by
 unfold oneV insV
 have hform:=fun W=>rform_any c W
 unfold isV at hform
 rw [hop,hf] at hform
 have HForm:=hid hform
 have hbeh:=fun W=>rbehind_any 2 W (by omega)
 rw [show Op1.bh 2 = 1 by decide +kernel] at hbeh
 have HBeh:=hid hbeh
 have hlt:=World.block_lt_of_cell? w _ hc
 have hd : decide ((k : Int) < 0) = false:=by simp
 have hd2 : decide ((n : Int) - (k : Int) - 1 < (1 : Int)) = false:=by simp;omega
 have hk1 : (k : Int) < n:=by omega
 have hk2 : (k : Int) + 1 < n:=by omega
 have HSg:=hid (fun W=>signed8 cp W hp8)
 clear hform hop hbeh hf
 go_enter Tryz.func195,Tryz.ntmps195
 go_wp2_with (first|(go_at_call 196;refine (HForm.out _).mono ?_;rintro e w1 ⟨rfl,hb1⟩;obtain ⟨hcc,hff⟩:=bcell hb1;have hz1:=hb1.size;simp only [World.size_alloc] at hz1;have hz2 : w.heap.size + 1 < w1.heap.size:=(by omega);have hz3 : w.heap.size < w1.heap.size:=(by omega);obtain ⟨q0,q1,q2,q3,r0,r1,r2,r3⟩:=ro_cells hb1;(try (have hp1:=(ro_old hb1 hlt _).trans hp));(try (have hq1:=(ro_old hb1 hlt _).trans hq)))|(go_at_call 207;refine (HBeh.out _).mono ?_;rintro e w3 ⟨rfl,rfl⟩)|(go_at_call 208;refine (HSg.out _).mono ?_;rintro e w3 ⟨rfl,rfl⟩))
 have hb':=(belows (B:=w.heap.size) (a:=w) BLw hb1 (by simp only [World.size_alloc];omega))
 exact bodyPost_ret (v:=.tuple #[.agg #[.int .i64 k,.int .i64 c,.int .i64 (Op1.s8 cp),.int .i64 (0)],.int .i64 (k + 1 + 1),.int .i64 0]) (by simp [results,Tryz.results195,go_sem,q0,q1,q2,q3]) rfl ⟨rfl,BLw⟩
end Go.Proofs.YtnojgiflgmnjlaaGreatDoor.L1

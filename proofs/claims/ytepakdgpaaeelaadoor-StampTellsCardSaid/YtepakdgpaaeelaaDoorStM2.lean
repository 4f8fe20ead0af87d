/-
  stamp: the statement on what moments bytes tell.
-/
import Derived.Test.YtepakdgpaaeelaaDoorStV4
import Derived.Test.YtepakdgpaaeelaaDoorStV5
import Derived.Test.YtepakdgpaaeelaaDoorRoomy
import Derived.Test.YtepakdgpaaeelaaDoorStW
namespace Go.Proofs.YtepakdgpaaeelaaDoor
open Go.RowKit Go
set_option linter.unusedVariables false
set_option maxRecDepth 100000
theorem Roomed.up {W : World} {base : Nat} {A : Option Addr} {n c : Nat} {bs : List UInt8} (h : Roomed W base A n c bs) (x : Up W) : Roomed x.w base A n c bs := h.below x.b (Nat.le_refl _)
theorem beq_same (b : Bool) : (b == b) = true := by cases b <;> rfl
set_option maxHeartbeats 3200000 in
theorem tells_row (A : Option Addr) (n c : Nat) (bs : List UInt8) (t u : Tm) (w : World) (hI : IsBs w A n c bs) (ht : IsTm w t) (hu : IsTm w u) (hT : Sizes w) :
    Calls Tryd.prog 3 #[.slice A n c, tmV t, tmV u] w fun e w' => e = .returned (.bool true) ∧ Below w.heap.size w w' := by
  have hR := hI.rb
  have hl1 := hI.le
  have hl2 := hI.max
  unfold maxLen at hl2
  have WK := Lib.hid (fun W (h : Sizes W) => works_any W h)
  have HB0 : Hid (∀ a b : Obj, Below w.heap.size w ((w.alloc a).alloc b)) := fun a b => ((Below.refl _ _).alloc (Nat.le_refl _) _).alloc (by simp) _
  by_cases hn : n ≤ 4096
  · have R1 := Lib.hid (fun W => right_any t W ht)
    have R2 := Lib.hid (fun W => refRight_any t W ht)
    have L1 := Lib.hid (fun W => less_any t u W ht hu)
    have L2 := Lib.hid (fun W => refLess_any t u W ht hu)
    have L3 := Lib.hid (fun W => less_any u t W hu ht)
    have L4 := Lib.hid (fun W => refLess_any u t W hu ht)
    have U1 := Lib.hid (fun A1 c1 W (h : RB W A1 n bs) => utc_any A1 n c1 bs W h (by omega))
    have U2 := Lib.hid (fun W (h : RB W A n bs) => refUtc_any A n c bs W h (by omega) hl1 (by omega))
    have G1 := Lib.hid (fun A1 c1 W (h : RB W A1 n bs) => gen_any A1 n c1 bs W h (by omega))
    have G2 := Lib.hid (fun W (h : RB W A n bs) => refGen_any A n c bs W h (by omega) hl1 (by omega))
    have RM := Lib.hid (fun W (h : RB W A n bs) => roomy_any A n c bs W h (by omega))
    have KP := Lib.hid (fun W A1 c1 base (h : Roomed W base A1 n c1 bs) (h2 : RB W A n bs) => kept_any A1 A n n c1 c base bs bs W h h2 (by omega))
    simp only [beq_self_eq_true] at KP
    generalize rightB t = rr at R1 R2
    generalize lessB t u = b1 at L1 L2
    generalize lessB u t = b2 at L3 L4
    generalize utcO bs = uo at U1 U2
    generalize genO bs = go at G1 G2
    have e1 := beq_same rr
    have e2 := beq_same b1
    have e3 := beq_same b2
    clear hI ht hu
    unfold tmV Tm.cells at *
    obtain ⟨yt_, mot_, dt_, ht_, mit_, st_⟩ := t
    obtain ⟨yu_, mou_, du_, hu_, miu_, su_⟩ := u
    simp only at *
    have E1 := Lib.hid e1
    have E2 := Lib.hid e2
    have E3 := Lib.hid e3
    clear e1 e2 e3
    cases uo with
    | none =>
      rw [opt_none] at U1 U2
      cases go with
      | none =>
        rw [opt_none] at G1 G2
        go_enter Tryd.func3, Tryd.ntmps3
        go_wp2_with fail
        refine calls_named fun w0 hw0 => ?_
        have hbw0 : Below w.heap.size w w0 := below_named hw0 (HB0.out _ _)
        have ka0 := heap_named hw0 (heap_alloc2_old w _ _)
        have kb0 := heap_named hw0 (heap_alloc2_new w _ _)
        have hs0 := hbw0.size
        clear hw0 HB0
        refine (RM.out _ (hR.below hbw0)).mono ?_
        rintro e w1 ⟨A1, c1, rfl, rm1, hb1⟩
        have hbw1 := hbw0.trans (hb1.mono hs0)
        have hs1 := hbw1.size
        have ka1 := (hb1.block _ (heap_lt ka0)).trans ka0
        have kb1 := (hb1.block _ (heap_lt kb0)).trans kb0
        clear hb1 ka0 kb0 hbw0
        go_wp2_with fail
        refine (U1.out A1 c1 _ rm1.rb).mono ?_
        intro e w2 hw2
        obtain ⟨rfl, hb2⟩ := hw2
        have hbw2 := hbw1.trans (hb2.mono hs1)
        have hs2 := hbw2.size
        have ka2 := (hb2.block _ (heap_lt ka1)).trans ka1
        have kb2 := (hb2.block _ (heap_lt kb1)).trans kb1
        have rm2 := rm1.below hb2 (Nat.le_refl _)
        clear hb2 rm1 hbw1 ka1 kb1
        go_wp2_with fail
        refine calls_named fun w3 hw3 => ?_
        have hbw3 : Below w.heap.size w w3 := below_named hw3 (hbw2.alloc hs2 _)
        have hs3 := hbw3.size
        have ka3 := heap_named hw3 ((heap_alloc_old w2 _ (heap_lt ka2)).trans ka2)
        have kb3 := heap_named hw3 ((heap_alloc_old w2 _ (heap_lt kb2)).trans kb2)
        have kx3 := heap_named hw3 (heap_alloc_new w2 _)
        have rm3 : Roomed w3 w0.heap.size A1 n c1 bs := hw3 ▸ (rm2.below ((Below.refl w2.heap.size w2).alloc (Nat.le_refl _) _) (Nat.le_refl _))
        clear hw3 rm2 hbw2 ka2 kb2
        refine (U2.out _ (hR.below hbw3)).mono ?_
        intro e w4 hw4
        obtain ⟨rfl, hb4⟩ := hw4
        have hbw4 := hbw3.trans (hb4.mono hs3)
        have hs4 := hbw4.size
        have ka4 := (hb4.block _ (heap_lt ka3)).trans ka3
        have kb4 := (hb4.block _ (heap_lt kb3)).trans kb3
        have kx4 := (hb4.block _ (heap_lt kx3)).trans kx3
        have rm4 := rm3.below hb4 (Nat.le_refl _)
        clear hb4 rm3 hbw3 ka3 kb3 kx3
        go_wp2_with fail
        refine calls_named fun w5 hw5 => ?_
        have hbw5 : Below w.heap.size w w5 := below_named hw5 (hbw4.alloc hs4 _)
        have hs5 := hbw5.size
        have ka5 := heap_named hw5 ((heap_alloc_old w4 _ (heap_lt ka4)).trans ka4)
        have kb5 := heap_named hw5 ((heap_alloc_old w4 _ (heap_lt kb4)).trans kb4)
        have kx5 := heap_named hw5 ((heap_alloc_old w4 _ (heap_lt kx4)).trans kx4)
        have ky5 := heap_named hw5 (heap_alloc_new w4 _)
        have rm5 : Roomed w5 w0.heap.size A1 n c1 bs := hw5 ▸ (rm4.below ((Below.refl w4.heap.size w4).alloc (Nat.le_refl _) _) (Nat.le_refl _))
        clear hw5 rm4 hbw4 ka4 kb4 kx4
        refine (G1.out A1 c1 _ rm5.rb).mono ?_
        intro e w6 hw6
        obtain ⟨rfl, hb6⟩ := hw6
        have hbw6 := hbw5.trans (hb6.mono hs5)
        have hs6 := hbw6.size
        have ka6 := (hb6.block _ (heap_lt ka5)).trans ka5
        have kb6 := (hb6.block _ (heap_lt kb5)).trans kb5
        have kx6 := (hb6.block _ (heap_lt kx5)).trans kx5
        have ky6 := (hb6.block _ (heap_lt ky5)).trans ky5
        have rm6 := rm5.below hb6 (Nat.le_refl _)
        clear hb6 rm5 hbw5 ka5 kb5 kx5 ky5
        go_wp2_with fail
        refine calls_named fun w7 hw7 => ?_
        have hbw7 : Below w.heap.size w w7 := below_named hw7 (hbw6.alloc hs6 _)
        have hs7 := hbw7.size
        have ka7 := heap_named hw7 ((heap_alloc_old w6 _ (heap_lt ka6)).trans ka6)
        have kb7 := heap_named hw7 ((heap_alloc_old w6 _ (heap_lt kb6)).trans kb6)
        have kx7 := heap_named hw7 ((heap_alloc_old w6 _ (heap_lt kx6)).trans kx6)
        have ky7 := heap_named hw7 ((heap_alloc_old w6 _ (heap_lt ky6)).trans ky6)
        have kp7 := heap_named hw7 (heap_alloc_new w6 _)
        have rm7 : Roomed w7 w0.heap.size A1 n c1 bs := hw7 ▸ (rm6.below ((Below.refl w6.heap.size w6).alloc (Nat.le_refl _) _) (Nat.le_refl _))
        clear hw7 rm6 hbw6 ka6 kb6 kx6 ky6
        refine (G2.out _ (hR.below hbw7)).mono ?_
        intro e w8 hw8
        obtain ⟨rfl, hb8⟩ := hw8
        have hbw8 := hbw7.trans (hb8.mono hs7)
        have hs8 := hbw8.size
        have ka8 := (hb8.block _ (heap_lt ka7)).trans ka7
        have kb8 := (hb8.block _ (heap_lt kb7)).trans kb7
        have kx8 := (hb8.block _ (heap_lt kx7)).trans kx7
        have ky8 := (hb8.block _ (heap_lt ky7)).trans ky7
        have kp8 := (hb8.block _ (heap_lt kp7)).trans kp7
        have rm8 := rm7.below hb8 (Nat.le_refl _)
        clear hb8 rm7 hbw7 ka7 kb7 kx7 ky7 kp7
        go_wp2
        refine wp_named fun W1 hW1 => ?_
        have hbW : Below w.heap.size w W1 := below_named hW1 (hbw8.alloc hs8 _)
        have hsW := hbW.size
        have kaW := heap_named hW1 ((heap_alloc_old w8 _ (heap_lt ka8)).trans ka8)
        have kbW := heap_named hW1 ((heap_alloc_old w8 _ (heap_lt kb8)).trans kb8)
        have kxW := heap_named hW1 ((heap_alloc_old w8 _ (heap_lt kx8)).trans kx8)
        have kyW := heap_named hW1 ((heap_alloc_old w8 _ (heap_lt ky8)).trans ky8)
        have kpW := heap_named hW1 ((heap_alloc_old w8 _ (heap_lt kp8)).trans kp8)
        have kqW := heap_named hW1 (heap_alloc_new w8 _)
        have rmW : Roomed W1 w0.heap.size A1 n c1 bs := hW1 ▸ (rm8.below ((Below.refl w8.heap.size w8).alloc (Nat.le_refl _) _) (Nat.le_refl _))
        have hRW := hR.below hbW
        have HS1 := Lib.hid (hT.below' hbW)
        clear hW1 rm8 hbw8 ka8 kb8 kx8 ky8 kp8
        have fa := fun x : Up W1 => cells6 (x.heap kaW)
        have fa0 := fun x : Up W1 => (fa x).1
        have fa1 := fun x : Up W1 => (fa x).2.1
        have fa2 := fun x : Up W1 => (fa x).2.2.1
        have fa3 := fun x : Up W1 => (fa x).2.2.2.1
        have fa4 := fun x : Up W1 => (fa x).2.2.2.2.1
        have fa5 := fun x : Up W1 => (fa x).2.2.2.2.2
        clear fa
        have fb := fun x : Up W1 => cells6 (x.heap kbW)
        have fb0 := fun x : Up W1 => (fb x).1
        have fb1 := fun x : Up W1 => (fb x).2.1
        have fb2 := fun x : Up W1 => (fb x).2.2.1
        have fb3 := fun x : Up W1 => (fb x).2.2.2.1
        have fb4 := fun x : Up W1 => (fb x).2.2.2.2.1
        have fb5 := fun x : Up W1 => (fb x).2.2.2.2.2
        clear fb
        have fx := fun x : Up W1 => cells6 (x.heap kxW)
        have fx0 := fun x : Up W1 => (fx x).1
        have fx1 := fun x : Up W1 => (fx x).2.1
        have fx2 := fun x : Up W1 => (fx x).2.2.1
        have fx3 := fun x : Up W1 => (fx x).2.2.2.1
        have fx4 := fun x : Up W1 => (fx x).2.2.2.2.1
        have fx5 := fun x : Up W1 => (fx x).2.2.2.2.2
        clear fx
        have fy := fun x : Up W1 => cells6 (x.heap kyW)
        have fy0 := fun x : Up W1 => (fy x).1
        have fy1 := fun x : Up W1 => (fy x).2.1
        have fy2 := fun x : Up W1 => (fy x).2.2.1
        have fy3 := fun x : Up W1 => (fy x).2.2.2.1
        have fy4 := fun x : Up W1 => (fy x).2.2.2.2.1
        have fy5 := fun x : Up W1 => (fy x).2.2.2.2.2
        clear fy
        have fp := fun x : Up W1 => cells6 (x.heap kpW)
        have fp0 := fun x : Up W1 => (fp x).1
        have fp1 := fun x : Up W1 => (fp x).2.1
        have fp2 := fun x : Up W1 => (fp x).2.2.1
        have fp3 := fun x : Up W1 => (fp x).2.2.2.1
        have fp4 := fun x : Up W1 => (fp x).2.2.2.2.1
        have fp5 := fun x : Up W1 => (fp x).2.2.2.2.2
        clear fp
        have fq := fun x : Up W1 => cells6 (x.heap kqW)
        have fq0 := fun x : Up W1 => (fq x).1
        have fq1 := fun x : Up W1 => (fq x).2.1
        have fq2 := fun x : Up W1 => (fq x).2.2.1
        have fq3 := fun x : Up W1 => (fq x).2.2.2.1
        have fq4 := fun x : Up W1 => (fq x).2.2.2.2.1
        have fq5 := fun x : Up W1 => (fq x).2.2.2.2.2
        clear fq
        clear kaW kbW kxW kyW kpW kqW
        have e1 := E1.out
        have e2 := E2.out
        have e3 := E3.out
        refine wp_region_up (by kernel_rfl) (by kernel_rfl) ?_
        repeat (go_big_quiet_step (first
          | (go_at_call 19; exact Up.calls (R1.out _))
          | (go_at_call 20; exact Up.calls (R2.out _))
          | (go_at_call 21; with_reducible exact Up.calls (L1.out _))
          | (go_at_call 21; with_reducible exact Up.calls (L3.out _))
          | (go_at_call 22; with_reducible exact Up.calls (L2.out _))
          | (go_at_call 22; with_reducible exact Up.calls (L4.out _))
          | (go_at_call 23; exact Up.same (KP.out _ _ _ _ (rmW.up _) (hRW.below (Up.b _))))
          | (go_at_call 13; exact Up.calls (WK.out _ (HS1.out.below' (Up.b _))))))
        refine wpQuiet_nil ?_
        rintro _ ⟨x, rfl⟩
        have hbx := x.b
        go_wp2
        go_ret
        exact ⟨rfl, hbW.trans (hbx.mono hsW)⟩
      | some p =>
        rw [opt_some] at G1 G2
        unfold tmV Tm.cells at G1 G2
        obtain ⟨yp_, mop_, dp_, hp_, mip_, sp_⟩ := p
        simp only at G1 G2
        have CP : Hid (∀ W, (Op.equalIn 10000 25 (.agg #[.int .u16 (yp_ : Int), .int .u8 (mop_.toNat : Int), .int .u8 (dp_.toNat : Int), .int .u8 (hp_.toNat : Int), .int .u8 (mip_.toNat : Int), .int .u8 (sp_.toNat : Int)]) (.agg #[.int .u16 (yp_ : Int), .int .u8 (mop_.toNat : Int), .int .u8 (dp_.toNat : Int), .int .u8 (hp_.toNat : Int), .int .u8 (mip_.toNat : Int), .int .u8 (sp_.toNat : Int)])).run Tryd.prog W = .ok true W) := fun W => (tm_same ⟨yp_, mop_, dp_, hp_, mip_, sp_⟩ ⟨yp_, mop_, dp_, hp_, mip_, sp_⟩ W 9998).trans (by simp)
        have cp := CP.out
        go_enter Tryd.func3, Tryd.ntmps3
        go_wp2_with fail
        refine calls_named fun w0 hw0 => ?_
        have hbw0 : Below w.heap.size w w0 := below_named hw0 (HB0.out _ _)
        have ka0 := heap_named hw0 (heap_alloc2_old w _ _)
        have kb0 := heap_named hw0 (heap_alloc2_new w _ _)
        have hs0 := hbw0.size
        clear hw0 HB0
        refine (RM.out _ (hR.below hbw0)).mono ?_
        rintro e w1 ⟨A1, c1, rfl, rm1, hb1⟩
        have hbw1 := hbw0.trans (hb1.mono hs0)
        have hs1 := hbw1.size
        have ka1 := (hb1.block _ (heap_lt ka0)).trans ka0
        have kb1 := (hb1.block _ (heap_lt kb0)).trans kb0
        clear hb1 ka0 kb0 hbw0
        go_wp2_with fail
        refine (U1.out A1 c1 _ rm1.rb).mono ?_
        intro e w2 hw2
        obtain ⟨rfl, hb2⟩ := hw2
        have hbw2 := hbw1.trans (hb2.mono hs1)
        have hs2 := hbw2.size
        have ka2 := (hb2.block _ (heap_lt ka1)).trans ka1
        have kb2 := (hb2.block _ (heap_lt kb1)).trans kb1
        have rm2 := rm1.below hb2 (Nat.le_refl _)
        clear hb2 rm1 hbw1 ka1 kb1
        go_wp2_with fail
        refine calls_named fun w3 hw3 => ?_
        have hbw3 : Below w.heap.size w w3 := below_named hw3 (hbw2.alloc hs2 _)
        have hs3 := hbw3.size
        have ka3 := heap_named hw3 ((heap_alloc_old w2 _ (heap_lt ka2)).trans ka2)
        have kb3 := heap_named hw3 ((heap_alloc_old w2 _ (heap_lt kb2)).trans kb2)
        have kx3 := heap_named hw3 (heap_alloc_new w2 _)
        have rm3 : Roomed w3 w0.heap.size A1 n c1 bs := hw3 ▸ (rm2.below ((Below.refl w2.heap.size w2).alloc (Nat.le_refl _) _) (Nat.le_refl _))
        clear hw3 rm2 hbw2 ka2 kb2
        refine (U2.out _ (hR.below hbw3)).mono ?_
        intro e w4 hw4
        obtain ⟨rfl, hb4⟩ := hw4
        have hbw4 := hbw3.trans (hb4.mono hs3)
        have hs4 := hbw4.size
        have ka4 := (hb4.block _ (heap_lt ka3)).trans ka3
        have kb4 := (hb4.block _ (heap_lt kb3)).trans kb3
        have kx4 := (hb4.block _ (heap_lt kx3)).trans kx3
        have rm4 := rm3.below hb4 (Nat.le_refl _)
        clear hb4 rm3 hbw3 ka3 kb3 kx3
        go_wp2_with fail
        refine calls_named fun w5 hw5 => ?_
        have hbw5 : Below w.heap.size w w5 := below_named hw5 (hbw4.alloc hs4 _)
        have hs5 := hbw5.size
        have ka5 := heap_named hw5 ((heap_alloc_old w4 _ (heap_lt ka4)).trans ka4)
        have kb5 := heap_named hw5 ((heap_alloc_old w4 _ (heap_lt kb4)).trans kb4)
        have kx5 := heap_named hw5 ((heap_alloc_old w4 _ (heap_lt kx4)).trans kx4)
        have ky5 := heap_named hw5 (heap_alloc_new w4 _)
        have rm5 : Roomed w5 w0.heap.size A1 n c1 bs := hw5 ▸ (rm4.below ((Below.refl w4.heap.size w4).alloc (Nat.le_refl _) _) (Nat.le_refl _))
        clear hw5 rm4 hbw4 ka4 kb4 kx4
        refine (G1.out A1 c1 _ rm5.rb).mono ?_
        intro e w6 hw6
        obtain ⟨rfl, hb6⟩ := hw6
        have hbw6 := hbw5.trans (hb6.mono hs5)
        have hs6 := hbw6.size
        have ka6 := (hb6.block _ (heap_lt ka5)).trans ka5
        have kb6 := (hb6.block _ (heap_lt kb5)).trans kb5
        have kx6 := (hb6.block _ (heap_lt kx5)).trans kx5
        have ky6 := (hb6.block _ (heap_lt ky5)).trans ky5
        have rm6 := rm5.below hb6 (Nat.le_refl _)
        clear hb6 rm5 hbw5 ka5 kb5 kx5 ky5
        go_wp2_with fail
        refine calls_named fun w7 hw7 => ?_
        have hbw7 : Below w.heap.size w w7 := below_named hw7 (hbw6.alloc hs6 _)
        have hs7 := hbw7.size
        have ka7 := heap_named hw7 ((heap_alloc_old w6 _ (heap_lt ka6)).trans ka6)
        have kb7 := heap_named hw7 ((heap_alloc_old w6 _ (heap_lt kb6)).trans kb6)
        have kx7 := heap_named hw7 ((heap_alloc_old w6 _ (heap_lt kx6)).trans kx6)
        have ky7 := heap_named hw7 ((heap_alloc_old w6 _ (heap_lt ky6)).trans ky6)
        have kp7 := heap_named hw7 (heap_alloc_new w6 _)
        have rm7 : Roomed w7 w0.heap.size A1 n c1 bs := hw7 ▸ (rm6.below ((Below.refl w6.heap.size w6).alloc (Nat.le_refl _) _) (Nat.le_refl _))
        clear hw7 rm6 hbw6 ka6 kb6 kx6 ky6
        refine (G2.out _ (hR.below hbw7)).mono ?_
        intro e w8 hw8
        obtain ⟨rfl, hb8⟩ := hw8
        have hbw8 := hbw7.trans (hb8.mono hs7)
        have hs8 := hbw8.size
        have ka8 := (hb8.block _ (heap_lt ka7)).trans ka7
        have kb8 := (hb8.block _ (heap_lt kb7)).trans kb7
        have kx8 := (hb8.block _ (heap_lt kx7)).trans kx7
        have ky8 := (hb8.block _ (heap_lt ky7)).trans ky7
        have kp8 := (hb8.block _ (heap_lt kp7)).trans kp7
        have rm8 := rm7.below hb8 (Nat.le_refl _)
        clear hb8 rm7 hbw7 ka7 kb7 kx7 ky7 kp7
        go_wp2
        refine wp_named fun W1 hW1 => ?_
        have hbW : Below w.heap.size w W1 := below_named hW1 (hbw8.alloc hs8 _)
        have hsW := hbW.size
        have kaW := heap_named hW1 ((heap_alloc_old w8 _ (heap_lt ka8)).trans ka8)
        have kbW := heap_named hW1 ((heap_alloc_old w8 _ (heap_lt kb8)).trans kb8)
        have kxW := heap_named hW1 ((heap_alloc_old w8 _ (heap_lt kx8)).trans kx8)
        have kyW := heap_named hW1 ((heap_alloc_old w8 _ (heap_lt ky8)).trans ky8)
        have kpW := heap_named hW1 ((heap_alloc_old w8 _ (heap_lt kp8)).trans kp8)
        have kqW := heap_named hW1 (heap_alloc_new w8 _)
        have rmW : Roomed W1 w0.heap.size A1 n c1 bs := hW1 ▸ (rm8.below ((Below.refl w8.heap.size w8).alloc (Nat.le_refl _) _) (Nat.le_refl _))
        have hRW := hR.below hbW
        have HS1 := Lib.hid (hT.below' hbW)
        clear hW1 rm8 hbw8 ka8 kb8 kx8 ky8 kp8
        have fa := fun x : Up W1 => cells6 (x.heap kaW)
        have fa0 := fun x : Up W1 => (fa x).1
        have fa1 := fun x : Up W1 => (fa x).2.1
        have fa2 := fun x : Up W1 => (fa x).2.2.1
        have fa3 := fun x : Up W1 => (fa x).2.2.2.1
        have fa4 := fun x : Up W1 => (fa x).2.2.2.2.1
        have fa5 := fun x : Up W1 => (fa x).2.2.2.2.2
        clear fa
        have fb := fun x : Up W1 => cells6 (x.heap kbW)
        have fb0 := fun x : Up W1 => (fb x).1
        have fb1 := fun x : Up W1 => (fb x).2.1
        have fb2 := fun x : Up W1 => (fb x).2.2.1
        have fb3 := fun x : Up W1 => (fb x).2.2.2.1
        have fb4 := fun x : Up W1 => (fb x).2.2.2.2.1
        have fb5 := fun x : Up W1 => (fb x).2.2.2.2.2
        clear fb
        have fx := fun x : Up W1 => cells6 (x.heap kxW)
        have fx0 := fun x : Up W1 => (fx x).1
        have fx1 := fun x : Up W1 => (fx x).2.1
        have fx2 := fun x : Up W1 => (fx x).2.2.1
        have fx3 := fun x : Up W1 => (fx x).2.2.2.1
        have fx4 := fun x : Up W1 => (fx x).2.2.2.2.1
        have fx5 := fun x : Up W1 => (fx x).2.2.2.2.2
        clear fx
        have fy := fun x : Up W1 => cells6 (x.heap kyW)
        have fy0 := fun x : Up W1 => (fy x).1
        have fy1 := fun x : Up W1 => (fy x).2.1
        have fy2 := fun x : Up W1 => (fy x).2.2.1
        have fy3 := fun x : Up W1 => (fy x).2.2.2.1
        have fy4 := fun x : Up W1 => (fy x).2.2.2.2.1
        have fy5 := fun x : Up W1 => (fy x).2.2.2.2.2
        clear fy
        have fp := fun x : Up W1 => cells6 (x.heap kpW)
        have fp0 := fun x : Up W1 => (fp x).1
        have fp1 := fun x : Up W1 => (fp x).2.1
        have fp2 := fun x : Up W1 => (fp x).2.2.1
        have fp3 := fun x : Up W1 => (fp x).2.2.2.1
        have fp4 := fun x : Up W1 => (fp x).2.2.2.2.1
        have fp5 := fun x : Up W1 => (fp x).2.2.2.2.2
        clear fp
        have fq := fun x : Up W1 => cells6 (x.heap kqW)
        have fq0 := fun x : Up W1 => (fq x).1
        have fq1 := fun x : Up W1 => (fq x).2.1
        have fq2 := fun x : Up W1 => (fq x).2.2.1
        have fq3 := fun x : Up W1 => (fq x).2.2.2.1
        have fq4 := fun x : Up W1 => (fq x).2.2.2.2.1
        have fq5 := fun x : Up W1 => (fq x).2.2.2.2.2
        clear fq
        clear kaW kbW kxW kyW kpW kqW
        have e1 := E1.out
        have e2 := E2.out
        have e3 := E3.out
        refine wp_region_up (by kernel_rfl) (by kernel_rfl) ?_
        repeat (go_big_quiet_step (first
          | (go_at_call 19; exact Up.calls (R1.out _))
          | (go_at_call 20; exact Up.calls (R2.out _))
          | (go_at_call 21; with_reducible exact Up.calls (L1.out _))
          | (go_at_call 21; with_reducible exact Up.calls (L3.out _))
          | (go_at_call 22; with_reducible exact Up.calls (L2.out _))
          | (go_at_call 22; with_reducible exact Up.calls (L4.out _))
          | (go_at_call 23; exact Up.same (KP.out _ _ _ _ (rmW.up _) (hRW.below (Up.b _))))
          | (go_at_call 13; exact Up.calls (WK.out _ (HS1.out.below' (Up.b _))))))
        refine wpQuiet_nil ?_
        rintro _ ⟨x, rfl⟩
        have hbx := x.b
        go_wp2
        go_ret
        exact ⟨rfl, hbW.trans (hbx.mono hsW)⟩
    | some v =>
      rw [opt_some] at U1 U2
      unfold tmV Tm.cells at U1 U2
      obtain ⟨yv_, mov_, dv_, hv_, miv_, sv_⟩ := v
      simp only at U1 U2
      have CV : Hid (∀ W, (Op.equalIn 10000 25 (.agg #[.int .u16 (yv_ : Int), .int .u8 (mov_.toNat : Int), .int .u8 (dv_.toNat : Int), .int .u8 (hv_.toNat : Int), .int .u8 (miv_.toNat : Int), .int .u8 (sv_.toNat : Int)]) (.agg #[.int .u16 (yv_ : Int), .int .u8 (mov_.toNat : Int), .int .u8 (dv_.toNat : Int), .int .u8 (hv_.toNat : Int), .int .u8 (miv_.toNat : Int), .int .u8 (sv_.toNat : Int)])).run Tryd.prog W = .ok true W) := fun W => (tm_same ⟨yv_, mov_, dv_, hv_, miv_, sv_⟩ ⟨yv_, mov_, dv_, hv_, miv_, sv_⟩ W 9998).trans (by simp)
      have cv := CV.out
      cases go with
      | none =>
        rw [opt_none] at G1 G2
        go_enter Tryd.func3, Tryd.ntmps3
        go_wp2_with fail
        refine calls_named fun w0 hw0 => ?_
        have hbw0 : Below w.heap.size w w0 := below_named hw0 (HB0.out _ _)
        have ka0 := heap_named hw0 (heap_alloc2_old w _ _)
        have kb0 := heap_named hw0 (heap_alloc2_new w _ _)
        have hs0 := hbw0.size
        clear hw0 HB0
        refine (RM.out _ (hR.below hbw0)).mono ?_
        rintro e w1 ⟨A1, c1, rfl, rm1, hb1⟩
        have hbw1 := hbw0.trans (hb1.mono hs0)
        have hs1 := hbw1.size
        have ka1 := (hb1.block _ (heap_lt ka0)).trans ka0
        have kb1 := (hb1.block _ (heap_lt kb0)).trans kb0
        clear hb1 ka0 kb0 hbw0
        go_wp2_with fail
        refine (U1.out A1 c1 _ rm1.rb).mono ?_
        intro e w2 hw2
        obtain ⟨rfl, hb2⟩ := hw2
        have hbw2 := hbw1.trans (hb2.mono hs1)
        have hs2 := hbw2.size
        have ka2 := (hb2.block _ (heap_lt ka1)).trans ka1
        have kb2 := (hb2.block _ (heap_lt kb1)).trans kb1
        have rm2 := rm1.below hb2 (Nat.le_refl _)
        clear hb2 rm1 hbw1 ka1 kb1
        go_wp2_with fail
        refine calls_named fun w3 hw3 => ?_
        have hbw3 : Below w.heap.size w w3 := below_named hw3 (hbw2.alloc hs2 _)
        have hs3 := hbw3.size
        have ka3 := heap_named hw3 ((heap_alloc_old w2 _ (heap_lt ka2)).trans ka2)
        have kb3 := heap_named hw3 ((heap_alloc_old w2 _ (heap_lt kb2)).trans kb2)
        have kx3 := heap_named hw3 (heap_alloc_new w2 _)
        have rm3 : Roomed w3 w0.heap.size A1 n c1 bs := hw3 ▸ (rm2.below ((Below.refl w2.heap.size w2).alloc (Nat.le_refl _) _) (Nat.le_refl _))
        clear hw3 rm2 hbw2 ka2 kb2
        refine (U2.out _ (hR.below hbw3)).mono ?_
        intro e w4 hw4
        obtain ⟨rfl, hb4⟩ := hw4
        have hbw4 := hbw3.trans (hb4.mono hs3)
        have hs4 := hbw4.size
        have ka4 := (hb4.block _ (heap_lt ka3)).trans ka3
        have kb4 := (hb4.block _ (heap_lt kb3)).trans kb3
        have kx4 := (hb4.block _ (heap_lt kx3)).trans kx3
        have rm4 := rm3.below hb4 (Nat.le_refl _)
        clear hb4 rm3 hbw3 ka3 kb3 kx3
        go_wp2_with fail
        refine calls_named fun w5 hw5 => ?_
        have hbw5 : Below w.heap.size w w5 := below_named hw5 (hbw4.alloc hs4 _)
        have hs5 := hbw5.size
        have ka5 := heap_named hw5 ((heap_alloc_old w4 _ (heap_lt ka4)).trans ka4)
        have kb5 := heap_named hw5 ((heap_alloc_old w4 _ (heap_lt kb4)).trans kb4)
        have kx5 := heap_named hw5 ((heap_alloc_old w4 _ (heap_lt kx4)).trans kx4)
        have ky5 := heap_named hw5 (heap_alloc_new w4 _)
        have rm5 : Roomed w5 w0.heap.size A1 n c1 bs := hw5 ▸ (rm4.below ((Below.refl w4.heap.size w4).alloc (Nat.le_refl _) _) (Nat.le_refl _))
        clear hw5 rm4 hbw4 ka4 kb4 kx4
        refine (G1.out A1 c1 _ rm5.rb).mono ?_
        intro e w6 hw6
        obtain ⟨rfl, hb6⟩ := hw6
        have hbw6 := hbw5.trans (hb6.mono hs5)
        have hs6 := hbw6.size
        have ka6 := (hb6.block _ (heap_lt ka5)).trans ka5
        have kb6 := (hb6.block _ (heap_lt kb5)).trans kb5
        have kx6 := (hb6.block _ (heap_lt kx5)).trans kx5
        have ky6 := (hb6.block _ (heap_lt ky5)).trans ky5
        have rm6 := rm5.below hb6 (Nat.le_refl _)
        clear hb6 rm5 hbw5 ka5 kb5 kx5 ky5
        go_wp2_with fail
        refine calls_named fun w7 hw7 => ?_
        have hbw7 : Below w.heap.size w w7 := below_named hw7 (hbw6.alloc hs6 _)
        have hs7 := hbw7.size
        have ka7 := heap_named hw7 ((heap_alloc_old w6 _ (heap_lt ka6)).trans ka6)
        have kb7 := heap_named hw7 ((heap_alloc_old w6 _ (heap_lt kb6)).trans kb6)
        have kx7 := heap_named hw7 ((heap_alloc_old w6 _ (heap_lt kx6)).trans kx6)
        have ky7 := heap_named hw7 ((heap_alloc_old w6 _ (heap_lt ky6)).trans ky6)
        have kp7 := heap_named hw7 (heap_alloc_new w6 _)
        have rm7 : Roomed w7 w0.heap.size A1 n c1 bs := hw7 ▸ (rm6.below ((Below.refl w6.heap.size w6).alloc (Nat.le_refl _) _) (Nat.le_refl _))
        clear hw7 rm6 hbw6 ka6 kb6 kx6 ky6
        refine (G2.out _ (hR.below hbw7)).mono ?_
        intro e w8 hw8
        obtain ⟨rfl, hb8⟩ := hw8
        have hbw8 := hbw7.trans (hb8.mono hs7)
        have hs8 := hbw8.size
        have ka8 := (hb8.block _ (heap_lt ka7)).trans ka7
        have kb8 := (hb8.block _ (heap_lt kb7)).trans kb7
        have kx8 := (hb8.block _ (heap_lt kx7)).trans kx7
        have ky8 := (hb8.block _ (heap_lt ky7)).trans ky7
        have kp8 := (hb8.block _ (heap_lt kp7)).trans kp7
        have rm8 := rm7.below hb8 (Nat.le_refl _)
        clear hb8 rm7 hbw7 ka7 kb7 kx7 ky7 kp7
        go_wp2
        refine wp_named fun W1 hW1 => ?_
        have hbW : Below w.heap.size w W1 := below_named hW1 (hbw8.alloc hs8 _)
        have hsW := hbW.size
        have kaW := heap_named hW1 ((heap_alloc_old w8 _ (heap_lt ka8)).trans ka8)
        have kbW := heap_named hW1 ((heap_alloc_old w8 _ (heap_lt kb8)).trans kb8)
        have kxW := heap_named hW1 ((heap_alloc_old w8 _ (heap_lt kx8)).trans kx8)
        have kyW := heap_named hW1 ((heap_alloc_old w8 _ (heap_lt ky8)).trans ky8)
        have kpW := heap_named hW1 ((heap_alloc_old w8 _ (heap_lt kp8)).trans kp8)
        have kqW := heap_named hW1 (heap_alloc_new w8 _)
        have rmW : Roomed W1 w0.heap.size A1 n c1 bs := hW1 ▸ (rm8.below ((Below.refl w8.heap.size w8).alloc (Nat.le_refl _) _) (Nat.le_refl _))
        have hRW := hR.below hbW
        have HS1 := Lib.hid (hT.below' hbW)
        clear hW1 rm8 hbw8 ka8 kb8 kx8 ky8 kp8
        have fa := fun x : Up W1 => cells6 (x.heap kaW)
        have fa0 := fun x : Up W1 => (fa x).1
        have fa1 := fun x : Up W1 => (fa x).2.1
        have fa2 := fun x : Up W1 => (fa x).2.2.1
        have fa3 := fun x : Up W1 => (fa x).2.2.2.1
        have fa4 := fun x : Up W1 => (fa x).2.2.2.2.1
        have fa5 := fun x : Up W1 => (fa x).2.2.2.2.2
        clear fa
        have fb := fun x : Up W1 => cells6 (x.heap kbW)
        have fb0 := fun x : Up W1 => (fb x).1
        have fb1 := fun x : Up W1 => (fb x).2.1
        have fb2 := fun x : Up W1 => (fb x).2.2.1
        have fb3 := fun x : Up W1 => (fb x).2.2.2.1
        have fb4 := fun x : Up W1 => (fb x).2.2.2.2.1
        have fb5 := fun x : Up W1 => (fb x).2.2.2.2.2
        clear fb
        have fx := fun x : Up W1 => cells6 (x.heap kxW)
        have fx0 := fun x : Up W1 => (fx x).1
        have fx1 := fun x : Up W1 => (fx x).2.1
        have fx2 := fun x : Up W1 => (fx x).2.2.1
        have fx3 := fun x : Up W1 => (fx x).2.2.2.1
        have fx4 := fun x : Up W1 => (fx x).2.2.2.2.1
        have fx5 := fun x : Up W1 => (fx x).2.2.2.2.2
        clear fx
        have fy := fun x : Up W1 => cells6 (x.heap kyW)
        have fy0 := fun x : Up W1 => (fy x).1
        have fy1 := fun x : Up W1 => (fy x).2.1
        have fy2 := fun x : Up W1 => (fy x).2.2.1
        have fy3 := fun x : Up W1 => (fy x).2.2.2.1
        have fy4 := fun x : Up W1 => (fy x).2.2.2.2.1
        have fy5 := fun x : Up W1 => (fy x).2.2.2.2.2
        clear fy
        have fp := fun x : Up W1 => cells6 (x.heap kpW)
        have fp0 := fun x : Up W1 => (fp x).1
        have fp1 := fun x : Up W1 => (fp x).2.1
        have fp2 := fun x : Up W1 => (fp x).2.2.1
        have fp3 := fun x : Up W1 => (fp x).2.2.2.1
        have fp4 := fun x : Up W1 => (fp x).2.2.2.2.1
        have fp5 := fun x : Up W1 => (fp x).2.2.2.2.2
        clear fp
        have fq := fun x : Up W1 => cells6 (x.heap kqW)
        have fq0 := fun x : Up W1 => (fq x).1
        have fq1 := fun x : Up W1 => (fq x).2.1
        have fq2 := fun x : Up W1 => (fq x).2.2.1
        have fq3 := fun x : Up W1 => (fq x).2.2.2.1
        have fq4 := fun x : Up W1 => (fq x).2.2.2.2.1
        have fq5 := fun x : Up W1 => (fq x).2.2.2.2.2
        clear fq
        clear kaW kbW kxW kyW kpW kqW
        have e1 := E1.out
        have e2 := E2.out
        have e3 := E3.out
        refine wp_region_up (by kernel_rfl) (by kernel_rfl) ?_
        repeat (go_big_quiet_step (first
          | (go_at_call 19; exact Up.calls (R1.out _))
          | (go_at_call 20; exact Up.calls (R2.out _))
          | (go_at_call 21; with_reducible exact Up.calls (L1.out _))
          | (go_at_call 21; with_reducible exact Up.calls (L3.out _))
          | (go_at_call 22; with_reducible exact Up.calls (L2.out _))
          | (go_at_call 22; with_reducible exact Up.calls (L4.out _))
          | (go_at_call 23; exact Up.same (KP.out _ _ _ _ (rmW.up _) (hRW.below (Up.b _))))
          | (go_at_call 13; exact Up.calls (WK.out _ (HS1.out.below' (Up.b _))))))
        refine wpQuiet_nil ?_
        rintro _ ⟨x, rfl⟩
        have hbx := x.b
        go_wp2
        go_ret
        exact ⟨rfl, hbW.trans (hbx.mono hsW)⟩
      | some p =>
        rw [opt_some] at G1 G2
        unfold tmV Tm.cells at G1 G2
        obtain ⟨yp_, mop_, dp_, hp_, mip_, sp_⟩ := p
        simp only at G1 G2
        have CP : Hid (∀ W, (Op.equalIn 10000 25 (.agg #[.int .u16 (yp_ : Int), .int .u8 (mop_.toNat : Int), .int .u8 (dp_.toNat : Int), .int .u8 (hp_.toNat : Int), .int .u8 (mip_.toNat : Int), .int .u8 (sp_.toNat : Int)]) (.agg #[.int .u16 (yp_ : Int), .int .u8 (mop_.toNat : Int), .int .u8 (dp_.toNat : Int), .int .u8 (hp_.toNat : Int), .int .u8 (mip_.toNat : Int), .int .u8 (sp_.toNat : Int)])).run Tryd.prog W = .ok true W) := fun W => (tm_same ⟨yp_, mop_, dp_, hp_, mip_, sp_⟩ ⟨yp_, mop_, dp_, hp_, mip_, sp_⟩ W 9998).trans (by simp)
        have cp := CP.out
        go_enter Tryd.func3, Tryd.ntmps3
        go_wp2_with fail
        refine calls_named fun w0 hw0 => ?_
        have hbw0 : Below w.heap.size w w0 := below_named hw0 (HB0.out _ _)
        have ka0 := heap_named hw0 (heap_alloc2_old w _ _)
        have kb0 := heap_named hw0 (heap_alloc2_new w _ _)
        have hs0 := hbw0.size
        clear hw0 HB0
        refine (RM.out _ (hR.below hbw0)).mono ?_
        rintro e w1 ⟨A1, c1, rfl, rm1, hb1⟩
        have hbw1 := hbw0.trans (hb1.mono hs0)
        have hs1 := hbw1.size
        have ka1 := (hb1.block _ (heap_lt ka0)).trans ka0
        have kb1 := (hb1.block _ (heap_lt kb0)).trans kb0
        clear hb1 ka0 kb0 hbw0
        go_wp2_with fail
        refine (U1.out A1 c1 _ rm1.rb).mono ?_
        intro e w2 hw2
        obtain ⟨rfl, hb2⟩ := hw2
        have hbw2 := hbw1.trans (hb2.mono hs1)
        have hs2 := hbw2.size
        have ka2 := (hb2.block _ (heap_lt ka1)).trans ka1
        have kb2 := (hb2.block _ (heap_lt kb1)).trans kb1
        have rm2 := rm1.below hb2 (Nat.le_refl _)
        clear hb2 rm1 hbw1 ka1 kb1
        go_wp2_with fail
        refine calls_named fun w3 hw3 => ?_
        have hbw3 : Below w.heap.size w w3 := below_named hw3 (hbw2.alloc hs2 _)
        have hs3 := hbw3.size
        have ka3 := heap_named hw3 ((heap_alloc_old w2 _ (heap_lt ka2)).trans ka2)
        have kb3 := heap_named hw3 ((heap_alloc_old w2 _ (heap_lt kb2)).trans kb2)
        have kx3 := heap_named hw3 (heap_alloc_new w2 _)
        have rm3 : Roomed w3 w0.heap.size A1 n c1 bs := hw3 ▸ (rm2.below ((Below.refl w2.heap.size w2).alloc (Nat.le_refl _) _) (Nat.le_refl _))
        clear hw3 rm2 hbw2 ka2 kb2
        refine (U2.out _ (hR.below hbw3)).mono ?_
        intro e w4 hw4
        obtain ⟨rfl, hb4⟩ := hw4
        have hbw4 := hbw3.trans (hb4.mono hs3)
        have hs4 := hbw4.size
        have ka4 := (hb4.block _ (heap_lt ka3)).trans ka3
        have kb4 := (hb4.block _ (heap_lt kb3)).trans kb3
        have kx4 := (hb4.block _ (heap_lt kx3)).trans kx3
        have rm4 := rm3.below hb4 (Nat.le_refl _)
        clear hb4 rm3 hbw3 ka3 kb3 kx3
        go_wp2_with fail
        refine calls_named fun w5 hw5 => ?_
        have hbw5 : Below w.heap.size w w5 := below_named hw5 (hbw4.alloc hs4 _)
        have hs5 := hbw5.size
        have ka5 := heap_named hw5 ((heap_alloc_old w4 _ (heap_lt ka4)).trans ka4)
        have kb5 := heap_named hw5 ((heap_alloc_old w4 _ (heap_lt kb4)).trans kb4)
        have kx5 := heap_named hw5 ((heap_alloc_old w4 _ (heap_lt kx4)).trans kx4)
        have ky5 := heap_named hw5 (heap_alloc_new w4 _)
        have rm5 : Roomed w5 w0.heap.size A1 n c1 bs := hw5 ▸ (rm4.below ((Below.refl w4.heap.size w4).alloc (Nat.le_refl _) _) (Nat.le_refl _))
        clear hw5 rm4 hbw4 ka4 kb4 kx4
        refine (G1.out A1 c1 _ rm5.rb).mono ?_
        intro e w6 hw6
        obtain ⟨rfl, hb6⟩ := hw6
        have hbw6 := hbw5.trans (hb6.mono hs5)
        have hs6 := hbw6.size
        have ka6 := (hb6.block _ (heap_lt ka5)).trans ka5
        have kb6 := (hb6.block _ (heap_lt kb5)).trans kb5
        have kx6 := (hb6.block _ (heap_lt kx5)).trans kx5
        have ky6 := (hb6.block _ (heap_lt ky5)).trans ky5
        have rm6 := rm5.below hb6 (Nat.le_refl _)
        clear hb6 rm5 hbw5 ka5 kb5 kx5 ky5
        go_wp2_with fail
        refine calls_named fun w7 hw7 => ?_
        have hbw7 : Below w.heap.size w w7 := below_named hw7 (hbw6.alloc hs6 _)
        have hs7 := hbw7.size
        have ka7 := heap_named hw7 ((heap_alloc_old w6 _ (heap_lt ka6)).trans ka6)
        have kb7 := heap_named hw7 ((heap_alloc_old w6 _ (heap_lt kb6)).trans kb6)
        have kx7 := heap_named hw7 ((heap_alloc_old w6 _ (heap_lt kx6)).trans kx6)
        have ky7 := heap_named hw7 ((heap_alloc_old w6 _ (heap_lt ky6)).trans ky6)
        have kp7 := heap_named hw7 (heap_alloc_new w6 _)
        have rm7 : Roomed w7 w0.heap.size A1 n c1 bs := hw7 ▸ (rm6.below ((Below.refl w6.heap.size w6).alloc (Nat.le_refl _) _) (Nat.le_refl _))
        clear hw7 rm6 hbw6 ka6 kb6 kx6 ky6
        refine (G2.out _ (hR.below hbw7)).mono ?_
        intro e w8 hw8
        obtain ⟨rfl, hb8⟩ := hw8
        have hbw8 := hbw7.trans (hb8.mono hs7)
        have hs8 := hbw8.size
        have ka8 := (hb8.block _ (heap_lt ka7)).trans ka7
        have kb8 := (hb8.block _ (heap_lt kb7)).trans kb7
        have kx8 := (hb8.block _ (heap_lt kx7)).trans kx7
        have ky8 := (hb8.block _ (heap_lt ky7)).trans ky7
        have kp8 := (hb8.block _ (heap_lt kp7)).trans kp7
        have rm8 := rm7.below hb8 (Nat.le_refl _)
        clear hb8 rm7 hbw7 ka7 kb7 kx7 ky7 kp7
        go_wp2
        refine wp_named fun W1 hW1 => ?_
        have hbW : Below w.heap.size w W1 := below_named hW1 (hbw8.alloc hs8 _)
        have hsW := hbW.size
        have kaW := heap_named hW1 ((heap_alloc_old w8 _ (heap_lt ka8)).trans ka8)
        have kbW := heap_named hW1 ((heap_alloc_old w8 _ (heap_lt kb8)).trans kb8)
        have kxW := heap_named hW1 ((heap_alloc_old w8 _ (heap_lt kx8)).trans kx8)
        have kyW := heap_named hW1 ((heap_alloc_old w8 _ (heap_lt ky8)).trans ky8)
        have kpW := heap_named hW1 ((heap_alloc_old w8 _ (heap_lt kp8)).trans kp8)
        have kqW := heap_named hW1 (heap_alloc_new w8 _)
        have rmW : Roomed W1 w0.heap.size A1 n c1 bs := hW1 ▸ (rm8.below ((Below.refl w8.heap.size w8).alloc (Nat.le_refl _) _) (Nat.le_refl _))
        have hRW := hR.below hbW
        have HS1 := Lib.hid (hT.below' hbW)
        clear hW1 rm8 hbw8 ka8 kb8 kx8 ky8 kp8
        have fa := fun x : Up W1 => cells6 (x.heap kaW)
        have fa0 := fun x : Up W1 => (fa x).1
        have fa1 := fun x : Up W1 => (fa x).2.1
        have fa2 := fun x : Up W1 => (fa x).2.2.1
        have fa3 := fun x : Up W1 => (fa x).2.2.2.1
        have fa4 := fun x : Up W1 => (fa x).2.2.2.2.1
        have fa5 := fun x : Up W1 => (fa x).2.2.2.2.2
        clear fa
        have fb := fun x : Up W1 => cells6 (x.heap kbW)
        have fb0 := fun x : Up W1 => (fb x).1
        have fb1 := fun x : Up W1 => (fb x).2.1
        have fb2 := fun x : Up W1 => (fb x).2.2.1
        have fb3 := fun x : Up W1 => (fb x).2.2.2.1
        have fb4 := fun x : Up W1 => (fb x).2.2.2.2.1
        have fb5 := fun x : Up W1 => (fb x).2.2.2.2.2
        clear fb
        have fx := fun x : Up W1 => cells6 (x.heap kxW)
        have fx0 := fun x : Up W1 => (fx x).1
        have fx1 := fun x : Up W1 => (fx x).2.1
        have fx2 := fun x : Up W1 => (fx x).2.2.1
        have fx3 := fun x : Up W1 => (fx x).2.2.2.1
        have fx4 := fun x : Up W1 => (fx x).2.2.2.2.1
        have fx5 := fun x : Up W1 => (fx x).2.2.2.2.2
        clear fx
        have fy := fun x : Up W1 => cells6 (x.heap kyW)
        have fy0 := fun x : Up W1 => (fy x).1
        have fy1 := fun x : Up W1 => (fy x).2.1
        have fy2 := fun x : Up W1 => (fy x).2.2.1
        have fy3 := fun x : Up W1 => (fy x).2.2.2.1
        have fy4 := fun x : Up W1 => (fy x).2.2.2.2.1
        have fy5 := fun x : Up W1 => (fy x).2.2.2.2.2
        clear fy
        have fp := fun x : Up W1 => cells6 (x.heap kpW)
        have fp0 := fun x : Up W1 => (fp x).1
        have fp1 := fun x : Up W1 => (fp x).2.1
        have fp2 := fun x : Up W1 => (fp x).2.2.1
        have fp3 := fun x : Up W1 => (fp x).2.2.2.1
        have fp4 := fun x : Up W1 => (fp x).2.2.2.2.1
        have fp5 := fun x : Up W1 => (fp x).2.2.2.2.2
        clear fp
        have fq := fun x : Up W1 => cells6 (x.heap kqW)
        have fq0 := fun x : Up W1 => (fq x).1
        have fq1 := fun x : Up W1 => (fq x).2.1
        have fq2 := fun x : Up W1 => (fq x).2.2.1
        have fq3 := fun x : Up W1 => (fq x).2.2.2.1
        have fq4 := fun x : Up W1 => (fq x).2.2.2.2.1
        have fq5 := fun x : Up W1 => (fq x).2.2.2.2.2
        clear fq
        clear kaW kbW kxW kyW kpW kqW
        have e1 := E1.out
        have e2 := E2.out
        have e3 := E3.out
        refine wp_region_up (by kernel_rfl) (by kernel_rfl) ?_
        repeat (go_big_quiet_step (first
          | (go_at_call 19; exact Up.calls (R1.out _))
          | (go_at_call 20; exact Up.calls (R2.out _))
          | (go_at_call 21; with_reducible exact Up.calls (L1.out _))
          | (go_at_call 21; with_reducible exact Up.calls (L3.out _))
          | (go_at_call 22; with_reducible exact Up.calls (L2.out _))
          | (go_at_call 22; with_reducible exact Up.calls (L4.out _))
          | (go_at_call 23; exact Up.same (KP.out _ _ _ _ (rmW.up _) (hRW.below (Up.b _))))
          | (go_at_call 13; exact Up.calls (WK.out _ (HS1.out.below' (Up.b _))))))
        refine wpQuiet_nil ?_
        rintro _ ⟨x, rfl⟩
        have hbx := x.b
        go_wp2
        go_ret
        exact ⟨rfl, hbW.trans (hbx.mono hsW)⟩
  · unfold tmV Tm.cells
    obtain ⟨yt_, mot_, dt_, ht_, mit_, st_⟩ := t
    obtain ⟨yu_, mou_, du_, hu_, miu_, su_⟩ := u
    simp only
    have d1 : decide (4096 < (n : Int)) = true := decide_eq_true (by omega)
    go_enter Tryd.func3, Tryd.ntmps3
    go_wp2_with fail
    refine (WK.out _ (hT.below' (HB0.out _ _))).mono ?_
    intro e w1 hw1
    obtain ⟨rfl, hb1⟩ := hw1
    have hbw1 : Below w.heap.size w w1 := (HB0.out _ _).trans (hb1.mono (by simp; omega))
    clear hb1
    go_wp2
    go_ret
    exact ⟨rfl, hbw1⟩
end Go.Proofs.YtepakdgpaaeelaaDoor

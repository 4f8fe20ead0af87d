/-
  der: the statement on strings of bits.
-/
import Derived.Test.YtlkiobngafjeiaaDrWk
import Derived.Test.YtlkiobngafjeiaaDrB
namespace Go.Proofs.Ytlkiobngafjeiaa
open Go.RowKit Go
set_option linter.unusedVariables false
set_option maxRecDepth 100000
theorem bitslaw_big (u : Int) (A : Option Addr) (n c : Nat) (w : World) (hb : 8192 < n) :
    Calls Try.prog 19 #[.int .u8 u, .slice A n c] w fun e w' => e = .returned (.bool true) ∧ Below w.heap.size w w' := by
  have W := Lib.hid (works_any w)
  have L := Lib.hid (large_any A n c w)
  have hd : decide ((8192 : Int) < (n : Int)) = true := by simp; omega
  rw [hd] at L
  clear hd
  go_enter Try.func19, Try.ntmps19
  go_wp2_with fail
  refine L.out.mono ?_
  rintro e w' ⟨rfl, rfl⟩
  go_wp2_with fail
  refine W.out.mono ?_
  rintro e w' ⟨rfl, hb⟩
  go_wp2
  go_ret
  exact ⟨rfl, hb⟩
theorem bitslaw_over (u : UInt8) (k : Nat) (hu : u.toNat = k) (A : Option Addr) (n c : Nat) (bs : List UInt8) (w : World) (hR : RB w A n bs) (hn : n ≤ 8192) (h : bitsQ (u :: bs) = none) (h7 : 7 < k) (hk8 : k < 256) :
    Calls Try.prog 19 #[.int .u8 ((k : Nat) : Int), .slice A n c] w fun e w' => e = .returned (.bool true) ∧ Below w.heap.size w w' := by
  have W := Lib.hid (fun W => works_any W)
  have L := Lib.hid (large_any A n c w)
  have hd : decide ((8192 : Int) < (n : Int)) = false := by simp; omega
  rw [hd] at L
  have BT := Lib.hid (fun (A1 : Option Addr) (c1 : Nat) (w1 : World) (ho : OwnB w1 w.heap.size A1 (1 + n) c1 (u :: bs)) => bits_any A1 (1 + n) c1 (u :: bs) w1 ho.rb ho.cap.1 (by omega) (by have := ho.cap.2; unfold maxLen at this; omega))
  have H := Lib.hid h
  have HR := Lib.hid hR
  have hcell : (((k : Nat) : Int)) = (u.toNat : Int) := by omega
  have HC : Hid ((#[Value.int .u8 ((k : Nat) : Int)] : Array Value).toList = [u].map bv) := congrArg (fun z : Int => [Value.int .u8 z]) hcell
  clear hd hR h hcell hu
  go_enter Try.func19, Try.ntmps19
  go_wp2_with fail
  refine L.out.mono ?_
  rintro e w' ⟨rfl, rfl⟩
  go_wp2_with (at_builtin; refine wpList_apn _ _ rfl rfl rfl w.heap.size (some ⟨w.heap.size, 0, none⟩) 1 1 [u] rfl (own_lit w [u] 1 _ HC.out rfl (by omega)) _ n c bs rfl (HR.out.alloc _) (by omega) (by simp) ?_)
  intro A1 c1 w1 ho1 hg1
  have hb1 : Below w.heap.size w w1 := (kp_alloc (Below.refl _ _) _).grown hg1 (by simp) (fun g hg => by injection hg with hg; subst hg; exact Nat.le_refl _)
  have HO1 := Lib.hid ho1
  clear ho1 hg1
  go_wp2_with fail
  refine (BT.out _ _ _ HO1.out).mono ?_
  intro e w2 hp
  unfold BitsPost at hp
  rw [H.out] at hp
  obtain ⟨rfl, hb2⟩ := hp
  have HB := Lib.hid (kp_call hb1 hb2)
  clear hb1 hb2
  go_wp2_with fail
  refine (W.out _).mono ?_
  rintro e w' ⟨rfl, hb⟩
  go_wp2
  go_ret
  exact ⟨rfl, kp_call HB.out hb⟩
theorem bitslaw_none (u : UInt8) (k : Nat) (hu : u.toNat = k) (A : Option Addr) (n c : Nat) (bs : List UInt8) (w : World) (hR : RB w A n bs) (hn : n ≤ 8192) (h : bitsQ (u :: bs) = none) (h7 : k ≤ 7) (hk : 0 < k) (h0 : n = 0) :
    Calls Try.prog 19 #[.int .u8 ((k : Nat) : Int), .slice A n c] w fun e w' => e = .returned (.bool true) ∧ Below w.heap.size w w' := by
  have W := Lib.hid (fun W => works_any W)
  have L := Lib.hid (large_any A n c w)
  have hd : decide ((8192 : Int) < (n : Int)) = false := by simp; omega
  rw [hd] at L
  have BT := Lib.hid (fun (A1 : Option Addr) (c1 : Nat) (w1 : World) (ho : OwnB w1 w.heap.size A1 (1 + n) c1 (u :: bs)) => bits_any A1 (1 + n) c1 (u :: bs) w1 ho.rb ho.cap.1 (by omega) (by have := ho.cap.2; unfold maxLen at this; omega))
  have H := Lib.hid h
  have HR := Lib.hid hR
  have t1 : ((k : Int) == 0) = false := by simp; omega
  have t2 : (n : Int) ≤ 0 := by omega
  clear h0
  have hcell : (((k : Nat) : Int)) = (u.toNat : Int) := by omega
  have HC : Hid ((#[Value.int .u8 ((k : Nat) : Int)] : Array Value).toList = [u].map bv) := congrArg (fun z : Int => [Value.int .u8 z]) hcell
  clear hd hR h hcell hu
  go_enter Try.func19, Try.ntmps19
  go_wp2_with fail
  refine L.out.mono ?_
  rintro e w' ⟨rfl, rfl⟩
  go_wp2_with (at_builtin; refine wpList_apn _ _ rfl rfl rfl w.heap.size (some ⟨w.heap.size, 0, none⟩) 1 1 [u] rfl (own_lit w [u] 1 _ HC.out rfl (by omega)) _ n c bs rfl (HR.out.alloc _) (by omega) (by simp) ?_)
  intro A1 c1 w1 ho1 hg1
  have hb1 : Below w.heap.size w w1 := (kp_alloc (Below.refl _ _) _).grown hg1 (by simp) (fun g hg => by injection hg with hg; subst hg; exact Nat.le_refl _)
  have HO1 := Lib.hid ho1
  clear ho1 hg1
  go_wp2_with fail
  refine (BT.out _ _ _ HO1.out).mono ?_
  intro e w2 hp
  unfold BitsPost at hp
  rw [H.out] at hp
  obtain ⟨rfl, hb2⟩ := hp
  have HB := Lib.hid (kp_call hb1 hb2)
  clear hb1 hb2
  go_wp2_with fail
  refine (W.out _).mono ?_
  rintro e w' ⟨rfl, hb⟩
  go_wp2
  go_ret
  exact ⟨rfl, kp_call HB.out hb⟩
theorem bitslaw_nil (u : UInt8) (k : Nat) (hu : u.toNat = k) (A : Option Addr) (n c : Nat) (bs : List UInt8) (w : World) (hR : RB w A n bs) (hn : n ≤ 8192) (h : bitsQ (u :: bs) = some (bs, k)) (hk : k = 0) (h0 : n = 0) :
    Calls Try.prog 19 #[.int .u8 (0 : Int), .slice A n c] w fun e w' => e = .returned (.bool true) ∧ Below w.heap.size w w' := by
  have W := Lib.hid (fun W => works_any W)
  have L := Lib.hid (large_any A n c w)
  have hd : decide ((8192 : Int) < (n : Int)) = false := by simp; omega
  rw [hd] at L
  have BT := Lib.hid (fun (A1 : Option Addr) (c1 : Nat) (w1 : World) (ho : OwnB w1 w.heap.size A1 (1 + n) c1 (u :: bs)) => bits_any A1 (1 + n) c1 (u :: bs) w1 ho.rb ho.cap.1 (by omega) (by have := ho.cap.2; unfold maxLen at this; omega))
  have H := Lib.hid h
  have HR := Lib.hid hR
  have t2 : (n : Int) ≤ 0 := by omega
  subst hk
  clear h0
  have hcell : ((0 : Int)) = (u.toNat : Int) := by omega
  have HC : Hid ((#[Value.int .u8 (0 : Int)] : Array Value).toList = [u].map bv) := congrArg (fun z : Int => [Value.int .u8 z]) hcell
  clear hd hR h hcell hu
  go_enter Try.func19, Try.ntmps19
  go_wp2_with fail
  refine L.out.mono ?_
  rintro e w' ⟨rfl, rfl⟩
  go_wp2_with (at_builtin; refine wpList_apn _ _ rfl rfl rfl w.heap.size (some ⟨w.heap.size, 0, none⟩) 1 1 [u] rfl (own_lit w [u] 1 _ HC.out rfl (by omega)) _ n c bs rfl (HR.out.alloc _) (by omega) (by simp) ?_)
  intro A1 c1 w1 ho1 hg1
  have hb1 : Below w.heap.size w w1 := (kp_alloc (Below.refl _ _) _).grown hg1 (by simp) (fun g hg => by injection hg with hg; subst hg; exact Nat.le_refl _)
  have HO1 := Lib.hid ho1
  clear ho1 hg1
  go_wp2_with fail
  refine (BT.out _ _ _ HO1.out).mono ?_
  intro e w2 hp
  unfold BitsPost at hp
  rw [H.out] at hp
  obtain ⟨⟨A2, n2, c2, rfl, ho2⟩, hb2⟩ := hp
  have hR2 : RB w2 _ n bs := HR.out.below (hb1.trans (hb2.mono hb1.size))
  have E := Lib.hid (fun k => eq_any A2 _ n2 n c2 c bs bs (w2.drewN k) (ho2.rb.drewN k) (hR2.drewN k))
  have E0 := Lib.hid (eq_any A2 _ n2 n c2 c bs bs w2 ho2.rb hR2)
  have hbb : (bs == bs) = true := by simp
  rw [hbb] at E E0
  have HB := Lib.hid (kp_call hb1 hb2)
  clear hb1 hb2 ho2 hR2 hbb
  go_wp2_with fail
  refine (E0.out).mono ?_
  rintro e w' ⟨rfl, rfl⟩
  go_wp2_with fail
  refine (W.out _).mono ?_
  rintro e w' ⟨rfl, hb⟩
  go_wp2
  go_ret
  exact ⟨rfl, kp_call HB.out hb⟩
theorem bitslaw_0y (u : UInt8) (k : Nat) (hu : u.toNat = k) (A : Option Addr) (n c : Nat) (bs : List UInt8) (w : World) (hR : RB w A n bs) (hn : n ≤ 8192) (h : bitsQ (u :: bs) = some (bs, k)) (hk : k = 0) (p : UInt8) (hn0 : 0 < n) (b off : Nat) (hA : A = some ⟨b, off, none⟩) (hp : w.cell? ⟨b, off + (n - 1), none⟩ = some (.int .u8 (p.toNat : Int))) (hz : p.toNat % 1 = 0) :
    Calls Try.prog 19 #[.int .u8 (0 : Int), .slice A n c] w fun e w' => e = .returned (.bool true) ∧ Below w.heap.size w w' := by
  have W := Lib.hid (fun W => works_any W)
  have L := Lib.hid (large_any A n c w)
  have hd : decide ((8192 : Int) < (n : Int)) = false := by simp; omega
  rw [hd] at L
  have BT := Lib.hid (fun (A1 : Option Addr) (c1 : Nat) (w1 : World) (ho : OwnB w1 w.heap.size A1 (1 + n) c1 (u :: bs)) => bits_any A1 (1 + n) c1 (u :: bs) w1 ho.rb ho.cap.1 (by omega) (by have := ho.cap.2; unfold maxLen at this; omega))
  have H := Lib.hid h
  have HR := Lib.hid hR
  subst hA
  subst hk
  have t2 : (0 : Int) < (n : Int) := by omega
  have hpl := World.block_lt_of_cell? w _ hp
  have i1 : ((n : Int) - 1).toNat = n - 1 := by omega
  have hp8 : (p.toNat : Int) ≤ 255 := by have := p.toNat_lt; omega
  have z : ((p.toNat : Int) / 1 * 1 == (p.toNat : Int)) = true := by rw [beq_iff_eq]; omega
  have z2 : (p.toNat : Int) / 1 * 1 < 256 := by omega
  have hcell : ((0 : Int)) = (u.toNat : Int) := by omega
  have HC : Hid ((#[Value.int .u8 (0 : Int)] : Array Value).toList = [u].map bv) := congrArg (fun z : Int => [Value.int .u8 z]) hcell
  clear hd hR h hcell hu
  go_enter Try.func19, Try.ntmps19
  go_wp2_with fail
  refine L.out.mono ?_
  rintro e w' ⟨rfl, rfl⟩
  go_wp2_with (at_builtin; refine wpList_apn _ _ rfl rfl rfl w.heap.size (some ⟨w.heap.size, 0, none⟩) 1 1 [u] rfl (own_lit w [u] 1 _ HC.out rfl (by omega)) _ n c bs rfl (HR.out.alloc _) (by omega) (by simp) ?_)
  intro A1 c1 w1 ho1 hg1
  have hb1 : Below w.heap.size w w1 := (kp_alloc (Below.refl _ _) _).grown hg1 (by simp) (fun g hg => by injection hg with hg; subst hg; exact Nat.le_refl _)
  have HO1 := Lib.hid ho1
  clear ho1 hg1
  go_wp2_with fail
  refine (BT.out _ _ _ HO1.out).mono ?_
  intro e w2 hp
  unfold BitsPost at hp
  rw [H.out] at hp
  obtain ⟨⟨A2, n2, c2, rfl, ho2⟩, hb2⟩ := hp
  have hR2 : RB w2 _ n bs := HR.out.below (hb1.trans (hb2.mono hb1.size))
  have E := Lib.hid (fun k => eq_any A2 _ n2 n c2 c bs bs (w2.drewN k) (ho2.rb.drewN k) (hR2.drewN k))
  have E0 := Lib.hid (eq_any A2 _ n2 n c2 c bs bs w2 ho2.rb hR2)
  have hbb : (bs == bs) = true := by simp
  rw [hbb] at E E0
  have HB := Lib.hid (kp_call hb1 hb2)
  have hp2 := kp_cell (kp_call hb1 hb2) hp
  clear hb1 hb2 ho2 hR2 hbb
  go_wp2
  go_quiet (fail)
  go_wp2_with fail
  refine (E.out _).mono ?_
  rintro e w' ⟨rfl, rfl⟩
  go_wp2_with fail
  refine (W.out _).mono ?_
  rintro e w' ⟨rfl, hb⟩
  go_wp2
  go_ret
  exact ⟨rfl, kp_call (kp_drewN HB.out _) hb⟩
theorem bitslaw_1y (u : UInt8) (k : Nat) (hu : u.toNat = k) (A : Option Addr) (n c : Nat) (bs : List UInt8) (w : World) (hR : RB w A n bs) (hn : n ≤ 8192) (h : bitsQ (u :: bs) = some (bs, k)) (hk : k = 1) (p : UInt8) (hn0 : 0 < n) (b off : Nat) (hA : A = some ⟨b, off, none⟩) (hp : w.cell? ⟨b, off + (n - 1), none⟩ = some (.int .u8 (p.toNat : Int))) (hz : p.toNat % 2 = 0) :
    Calls Try.prog 19 #[.int .u8 (1 : Int), .slice A n c] w fun e w' => e = .returned (.bool true) ∧ Below w.heap.size w w' := by
  have W := Lib.hid (fun W => works_any W)
  have L := Lib.hid (large_any A n c w)
  have hd : decide ((8192 : Int) < (n : Int)) = false := by simp; omega
  rw [hd] at L
  have BT := Lib.hid (fun (A1 : Option Addr) (c1 : Nat) (w1 : World) (ho : OwnB w1 w.heap.size A1 (1 + n) c1 (u :: bs)) => bits_any A1 (1 + n) c1 (u :: bs) w1 ho.rb ho.cap.1 (by omega) (by have := ho.cap.2; unfold maxLen at this; omega))
  have H := Lib.hid h
  have HR := Lib.hid hR
  subst hA
  subst hk
  have t2 : (0 : Int) < (n : Int) := by omega
  have hpl := World.block_lt_of_cell? w _ hp
  have i1 : ((n : Int) - 1).toNat = n - 1 := by omega
  have hp8 : (p.toNat : Int) ≤ 255 := by have := p.toNat_lt; omega
  have z : ((p.toNat : Int) / 2 * 2 == (p.toNat : Int)) = true := by rw [beq_iff_eq]; omega
  have z2 : (p.toNat : Int) / 2 * 2 < 256 := by omega
  have hcell : ((1 : Int)) = (u.toNat : Int) := by omega
  have HC : Hid ((#[Value.int .u8 (1 : Int)] : Array Value).toList = [u].map bv) := congrArg (fun z : Int => [Value.int .u8 z]) hcell
  clear hd hR h hcell hu
  go_enter Try.func19, Try.ntmps19
  go_wp2_with fail
  refine L.out.mono ?_
  rintro e w' ⟨rfl, rfl⟩
  go_wp2_with (at_builtin; refine wpList_apn _ _ rfl rfl rfl w.heap.size (some ⟨w.heap.size, 0, none⟩) 1 1 [u] rfl (own_lit w [u] 1 _ HC.out rfl (by omega)) _ n c bs rfl (HR.out.alloc _) (by omega) (by simp) ?_)
  intro A1 c1 w1 ho1 hg1
  have hb1 : Below w.heap.size w w1 := (kp_alloc (Below.refl _ _) _).grown hg1 (by simp) (fun g hg => by injection hg with hg; subst hg; exact Nat.le_refl _)
  have HO1 := Lib.hid ho1
  clear ho1 hg1
  go_wp2_with fail
  refine (BT.out _ _ _ HO1.out).mono ?_
  intro e w2 hp
  unfold BitsPost at hp
  rw [H.out] at hp
  obtain ⟨⟨A2, n2, c2, rfl, ho2⟩, hb2⟩ := hp
  have hR2 : RB w2 _ n bs := HR.out.below (hb1.trans (hb2.mono hb1.size))
  have E := Lib.hid (fun k => eq_any A2 _ n2 n c2 c bs bs (w2.drewN k) (ho2.rb.drewN k) (hR2.drewN k))
  have E0 := Lib.hid (eq_any A2 _ n2 n c2 c bs bs w2 ho2.rb hR2)
  have hbb : (bs == bs) = true := by simp
  rw [hbb] at E E0
  have HB := Lib.hid (kp_call hb1 hb2)
  have hp2 := kp_cell (kp_call hb1 hb2) hp
  clear hb1 hb2 ho2 hR2 hbb
  go_wp2
  go_quiet (fail)
  go_wp2_with fail
  refine (E.out _).mono ?_
  rintro e w' ⟨rfl, rfl⟩
  go_wp2_with fail
  refine (W.out _).mono ?_
  rintro e w' ⟨rfl, hb⟩
  go_wp2
  go_ret
  exact ⟨rfl, kp_call (kp_drewN HB.out _) hb⟩
theorem bitslaw_1n (u : UInt8) (k : Nat) (hu : u.toNat = k) (A : Option Addr) (n c : Nat) (bs : List UInt8) (w : World) (hR : RB w A n bs) (hn : n ≤ 8192) (h : bitsQ (u :: bs) = none) (hk : k = 1) (p : UInt8) (hn0 : 0 < n) (b off : Nat) (hA : A = some ⟨b, off, none⟩) (hp : w.cell? ⟨b, off + (n - 1), none⟩ = some (.int .u8 (p.toNat : Int))) (hz : p.toNat % 2 ≠ 0) :
    Calls Try.prog 19 #[.int .u8 (1 : Int), .slice A n c] w fun e w' => e = .returned (.bool true) ∧ Below w.heap.size w w' := by
  have W := Lib.hid (fun W => works_any W)
  have L := Lib.hid (large_any A n c w)
  have hd : decide ((8192 : Int) < (n : Int)) = false := by simp; omega
  rw [hd] at L
  have BT := Lib.hid (fun (A1 : Option Addr) (c1 : Nat) (w1 : World) (ho : OwnB w1 w.heap.size A1 (1 + n) c1 (u :: bs)) => bits_any A1 (1 + n) c1 (u :: bs) w1 ho.rb ho.cap.1 (by omega) (by have := ho.cap.2; unfold maxLen at this; omega))
  have H := Lib.hid h
  have HR := Lib.hid hR
  subst hA
  subst hk
  have t2 : (0 : Int) < (n : Int) := by omega
  have hpl := World.block_lt_of_cell? w _ hp
  have i1 : ((n : Int) - 1).toNat = n - 1 := by omega
  have hp8 : (p.toNat : Int) ≤ 255 := by have := p.toNat_lt; omega
  have z : ((p.toNat : Int) / 2 * 2 == (p.toNat : Int)) = false := by simp; omega
  have z2 : (p.toNat : Int) / 2 * 2 < 256 := by omega
  have hcell : ((1 : Int)) = (u.toNat : Int) := by omega
  have HC : Hid ((#[Value.int .u8 (1 : Int)] : Array Value).toList = [u].map bv) := congrArg (fun z : Int => [Value.int .u8 z]) hcell
  clear hd hR h hcell hu
  go_enter Try.func19, Try.ntmps19
  go_wp2_with fail
  refine L.out.mono ?_
  rintro e w' ⟨rfl, rfl⟩
  go_wp2_with (at_builtin; refine wpList_apn _ _ rfl rfl rfl w.heap.size (some ⟨w.heap.size, 0, none⟩) 1 1 [u] rfl (own_lit w [u] 1 _ HC.out rfl (by omega)) _ n c bs rfl (HR.out.alloc _) (by omega) (by simp) ?_)
  intro A1 c1 w1 ho1 hg1
  have hb1 : Below w.heap.size w w1 := (kp_alloc (Below.refl _ _) _).grown hg1 (by simp) (fun g hg => by injection hg with hg; subst hg; exact Nat.le_refl _)
  have HO1 := Lib.hid ho1
  clear ho1 hg1
  go_wp2_with fail
  refine (BT.out _ _ _ HO1.out).mono ?_
  intro e w2 hp
  unfold BitsPost at hp
  rw [H.out] at hp
  obtain ⟨rfl, hb2⟩ := hp
  have HB := Lib.hid (kp_call hb1 hb2)
  have hp2 := kp_cell (kp_call hb1 hb2) hp
  clear hb1 hb2
  go_wp2
  go_quiet (fail)
  go_wp2_with fail
  refine (W.out _).mono ?_
  rintro e w' ⟨rfl, hb⟩
  go_wp2
  go_ret
  exact ⟨rfl, kp_call (kp_drewN HB.out _) hb⟩
theorem bitslaw_2y (u : UInt8) (k : Nat) (hu : u.toNat = k) (A : Option Addr) (n c : Nat) (bs : List UInt8) (w : World) (hR : RB w A n bs) (hn : n ≤ 8192) (h : bitsQ (u :: bs) = some (bs, k)) (hk : k = 2) (p : UInt8) (hn0 : 0 < n) (b off : Nat) (hA : A = some ⟨b, off, none⟩) (hp : w.cell? ⟨b, off + (n - 1), none⟩ = some (.int .u8 (p.toNat : Int))) (hz : p.toNat % 4 = 0) :
    Calls Try.prog 19 #[.int .u8 (2 : Int), .slice A n c] w fun e w' => e = .returned (.bool true) ∧ Below w.heap.size w w' := by
  have W := Lib.hid (fun W => works_any W)
  have L := Lib.hid (large_any A n c w)
  have hd : decide ((8192 : Int) < (n : Int)) = false := by simp; omega
  rw [hd] at L
  have BT := Lib.hid (fun (A1 : Option Addr) (c1 : Nat) (w1 : World) (ho : OwnB w1 w.heap.size A1 (1 + n) c1 (u :: bs)) => bits_any A1 (1 + n) c1 (u :: bs) w1 ho.rb ho.cap.1 (by omega) (by have := ho.cap.2; unfold maxLen at this; omega))
  have H := Lib.hid h
  have HR := Lib.hid hR
  subst hA
  subst hk
  have t2 : (0 : Int) < (n : Int) := by omega
  have hpl := World.block_lt_of_cell? w _ hp
  have i1 : ((n : Int) - 1).toNat = n - 1 := by omega
  have hp8 : (p.toNat : Int) ≤ 255 := by have := p.toNat_lt; omega
  have z : ((p.toNat : Int) / 4 * 4 == (p.toNat : Int)) = true := by rw [beq_iff_eq]; omega
  have z2 : (p.toNat : Int) / 4 * 4 < 256 := by omega
  have hcell : ((2 : Int)) = (u.toNat : Int) := by omega
  have HC : Hid ((#[Value.int .u8 (2 : Int)] : Array Value).toList = [u].map bv) := congrArg (fun z : Int => [Value.int .u8 z]) hcell
  clear hd hR h hcell hu
  go_enter Try.func19, Try.ntmps19
  go_wp2_with fail
  refine L.out.mono ?_
  rintro e w' ⟨rfl, rfl⟩
  go_wp2_with (at_builtin; refine wpList_apn _ _ rfl rfl rfl w.heap.size (some ⟨w.heap.size, 0, none⟩) 1 1 [u] rfl (own_lit w [u] 1 _ HC.out rfl (by omega)) _ n c bs rfl (HR.out.alloc _) (by omega) (by simp) ?_)
  intro A1 c1 w1 ho1 hg1
  have hb1 : Below w.heap.size w w1 := (kp_alloc (Below.refl _ _) _).grown hg1 (by simp) (fun g hg => by injection hg with hg; subst hg; exact Nat.le_refl _)
  have HO1 := Lib.hid ho1
  clear ho1 hg1
  go_wp2_with fail
  refine (BT.out _ _ _ HO1.out).mono ?_
  intro e w2 hp
  unfold BitsPost at hp
  rw [H.out] at hp
  obtain ⟨⟨A2, n2, c2, rfl, ho2⟩, hb2⟩ := hp
  have hR2 : RB w2 _ n bs := HR.out.below (hb1.trans (hb2.mono hb1.size))
  have E := Lib.hid (fun k => eq_any A2 _ n2 n c2 c bs bs (w2.drewN k) (ho2.rb.drewN k) (hR2.drewN k))
  have E0 := Lib.hid (eq_any A2 _ n2 n c2 c bs bs w2 ho2.rb hR2)
  have hbb : (bs == bs) = true := by simp
  rw [hbb] at E E0
  have HB := Lib.hid (kp_call hb1 hb2)
  have hp2 := kp_cell (kp_call hb1 hb2) hp
  clear hb1 hb2 ho2 hR2 hbb
  go_wp2
  go_quiet (fail)
  go_wp2_with fail
  refine (E.out _).mono ?_
  rintro e w' ⟨rfl, rfl⟩
  go_wp2_with fail
  refine (W.out _).mono ?_
  rintro e w' ⟨rfl, hb⟩
  go_wp2
  go_ret
  exact ⟨rfl, kp_call (kp_drewN HB.out _) hb⟩
theorem bitslaw_2n (u : UInt8) (k : Nat) (hu : u.toNat = k) (A : Option Addr) (n c : Nat) (bs : List UInt8) (w : World) (hR : RB w A n bs) (hn : n ≤ 8192) (h : bitsQ (u :: bs) = none) (hk : k = 2) (p : UInt8) (hn0 : 0 < n) (b off : Nat) (hA : A = some ⟨b, off, none⟩) (hp : w.cell? ⟨b, off + (n - 1), none⟩ = some (.int .u8 (p.toNat : Int))) (hz : p.toNat % 4 ≠ 0) :
    Calls Try.prog 19 #[.int .u8 (2 : Int), .slice A n c] w fun e w' => e = .returned (.bool true) ∧ Below w.heap.size w w' := by
  have W := Lib.hid (fun W => works_any W)
  have L := Lib.hid (large_any A n c w)
  have hd : decide ((8192 : Int) < (n : Int)) = false := by simp; omega
  rw [hd] at L
  have BT := Lib.hid (fun (A1 : Option Addr) (c1 : Nat) (w1 : World) (ho : OwnB w1 w.heap.size A1 (1 + n) c1 (u :: bs)) => bits_any A1 (1 + n) c1 (u :: bs) w1 ho.rb ho.cap.1 (by omega) (by have := ho.cap.2; unfold maxLen at this; omega))
  have H := Lib.hid h
  have HR := Lib.hid hR
  subst hA
  subst hk
  have t2 : (0 : Int) < (n : Int) := by omega
  have hpl := World.block_lt_of_cell? w _ hp
  have i1 : ((n : Int) - 1).toNat = n - 1 := by omega
  have hp8 : (p.toNat : Int) ≤ 255 := by have := p.toNat_lt; omega
  have z : ((p.toNat : Int) / 4 * 4 == (p.toNat : Int)) = false := by simp; omega
  have z2 : (p.toNat : Int) / 4 * 4 < 256 := by omega
  have hcell : ((2 : Int)) = (u.toNat : Int) := by omega
  have HC : Hid ((#[Value.int .u8 (2 : Int)] : Array Value).toList = [u].map bv) := congrArg (fun z : Int => [Value.int .u8 z]) hcell
  clear hd hR h hcell hu
  go_enter Try.func19, Try.ntmps19
  go_wp2_with fail
  refine L.out.mono ?_
  rintro e w' ⟨rfl, rfl⟩
  go_wp2_with (at_builtin; refine wpList_apn _ _ rfl rfl rfl w.heap.size (some ⟨w.heap.size, 0, none⟩) 1 1 [u] rfl (own_lit w [u] 1 _ HC.out rfl (by omega)) _ n c bs rfl (HR.out.alloc _) (by omega) (by simp) ?_)
  intro A1 c1 w1 ho1 hg1
  have hb1 : Below w.heap.size w w1 := (kp_alloc (Below.refl _ _) _).grown hg1 (by simp) (fun g hg => by injection hg with hg; subst hg; exact Nat.le_refl _)
  have HO1 := Lib.hid ho1
  clear ho1 hg1
  go_wp2_with fail
  refine (BT.out _ _ _ HO1.out).mono ?_
  intro e w2 hp
  unfold BitsPost at hp
  rw [H.out] at hp
  obtain ⟨rfl, hb2⟩ := hp
  have HB := Lib.hid (kp_call hb1 hb2)
  have hp2 := kp_cell (kp_call hb1 hb2) hp
  clear hb1 hb2
  go_wp2
  go_quiet (fail)
  go_wp2_with fail
  refine (W.out _).mono ?_
  rintro e w' ⟨rfl, hb⟩
  go_wp2
  go_ret
  exact ⟨rfl, kp_call (kp_drewN HB.out _) hb⟩
theorem bitslaw_3y (u : UInt8) (k : Nat) (hu : u.toNat = k) (A : Option Addr) (n c : Nat) (bs : List UInt8) (w : World) (hR : RB w A n bs) (hn : n ≤ 8192) (h : bitsQ (u :: bs) = some (bs, k)) (hk : k = 3) (p : UInt8) (hn0 : 0 < n) (b off : Nat) (hA : A = some ⟨b, off, none⟩) (hp : w.cell? ⟨b, off + (n - 1), none⟩ = some (.int .u8 (p.toNat : Int))) (hz : p.toNat % 8 = 0) :
    Calls Try.prog 19 #[.int .u8 (3 : Int), .slice A n c] w fun e w' => e = .returned (.bool true) ∧ Below w.heap.size w w' := by
  have W := Lib.hid (fun W => works_any W)
  have L := Lib.hid (large_any A n c w)
  have hd : decide ((8192 : Int) < (n : Int)) = false := by simp; omega
  rw [hd] at L
  have BT := Lib.hid (fun (A1 : Option Addr) (c1 : Nat) (w1 : World) (ho : OwnB w1 w.heap.size A1 (1 + n) c1 (u :: bs)) => bits_any A1 (1 + n) c1 (u :: bs) w1 ho.rb ho.cap.1 (by omega) (by have := ho.cap.2; unfold maxLen at this; omega))
  have H := Lib.hid h
  have HR := Lib.hid hR
  subst hA
  subst hk
  have t2 : (0 : Int) < (n : Int) := by omega
  have hpl := World.block_lt_of_cell? w _ hp
  have i1 : ((n : Int) - 1).toNat = n - 1 := by omega
  have hp8 : (p.toNat : Int) ≤ 255 := by have := p.toNat_lt; omega
  have z : ((p.toNat : Int) / 8 * 8 == (p.toNat : Int)) = true := by rw [beq_iff_eq]; omega
  have z2 : (p.toNat : Int) / 8 * 8 < 256 := by omega
  have hcell : ((3 : Int)) = (u.toNat : Int) := by omega
  have HC : Hid ((#[Value.int .u8 (3 : Int)] : Array Value).toList = [u].map bv) := congrArg (fun z : Int => [Value.int .u8 z]) hcell
  clear hd hR h hcell hu
  go_enter Try.func19, Try.ntmps19
  go_wp2_with fail
  refine L.out.mono ?_
  rintro e w' ⟨rfl, rfl⟩
  go_wp2_with (at_builtin; refine wpList_apn _ _ rfl rfl rfl w.heap.size (some ⟨w.heap.size, 0, none⟩) 1 1 [u] rfl (own_lit w [u] 1 _ HC.out rfl (by omega)) _ n c bs rfl (HR.out.alloc _) (by omega) (by simp) ?_)
  intro A1 c1 w1 ho1 hg1
  have hb1 : Below w.heap.size w w1 := (kp_alloc (Below.refl _ _) _).grown hg1 (by simp) (fun g hg => by injection hg with hg; subst hg; exact Nat.le_refl _)
  have HO1 := Lib.hid ho1
  clear ho1 hg1
  go_wp2_with fail
  refine (BT.out _ _ _ HO1.out).mono ?_
  intro e w2 hp
  unfold BitsPost at hp
  rw [H.out] at hp
  obtain ⟨⟨A2, n2, c2, rfl, ho2⟩, hb2⟩ := hp
  have hR2 : RB w2 _ n bs := HR.out.below (hb1.trans (hb2.mono hb1.size))
  have E := Lib.hid (fun k => eq_any A2 _ n2 n c2 c bs bs (w2.drewN k) (ho2.rb.drewN k) (hR2.drewN k))
  have E0 := Lib.hid (eq_any A2 _ n2 n c2 c bs bs w2 ho2.rb hR2)
  have hbb : (bs == bs) = true := by simp
  rw [hbb] at E E0
  have HB := Lib.hid (kp_call hb1 hb2)
  have hp2 := kp_cell (kp_call hb1 hb2) hp
  clear hb1 hb2 ho2 hR2 hbb
  go_wp2
  go_quiet (fail)
  go_wp2_with fail
  refine (E.out _).mono ?_
  rintro e w' ⟨rfl, rfl⟩
  go_wp2_with fail
  refine (W.out _).mono ?_
  rintro e w' ⟨rfl, hb⟩
  go_wp2
  go_ret
  exact ⟨rfl, kp_call (kp_drewN HB.out _) hb⟩
theorem bitslaw_3n (u : UInt8) (k : Nat) (hu : u.toNat = k) (A : Option Addr) (n c : Nat) (bs : List UInt8) (w : World) (hR : RB w A n bs) (hn : n ≤ 8192) (h : bitsQ (u :: bs) = none) (hk : k = 3) (p : UInt8) (hn0 : 0 < n) (b off : Nat) (hA : A = some ⟨b, off, none⟩) (hp : w.cell? ⟨b, off + (n - 1), none⟩ = some (.int .u8 (p.toNat : Int))) (hz : p.toNat % 8 ≠ 0) :
    Calls Try.prog 19 #[.int .u8 (3 : Int), .slice A n c] w fun e w' => e = .returned (.bool true) ∧ Below w.heap.size w w' := by
  have W := Lib.hid (fun W => works_any W)
  have L := Lib.hid (large_any A n c w)
  have hd : decide ((8192 : Int) < (n : Int)) = false := by simp; omega
  rw [hd] at L
  have BT := Lib.hid (fun (A1 : Option Addr) (c1 : Nat) (w1 : World) (ho : OwnB w1 w.heap.size A1 (1 + n) c1 (u :: bs)) => bits_any A1 (1 + n) c1 (u :: bs) w1 ho.rb ho.cap.1 (by omega) (by have := ho.cap.2; unfold maxLen at this; omega))
  have H := Lib.hid h
  have HR := Lib.hid hR
  subst hA
  subst hk
  have t2 : (0 : Int) < (n : Int) := by omega
  have hpl := World.block_lt_of_cell? w _ hp
  have i1 : ((n : Int) - 1).toNat = n - 1 := by omega
  have hp8 : (p.toNat : Int) ≤ 255 := by have := p.toNat_lt; omega
  have z : ((p.toNat : Int) / 8 * 8 == (p.toNat : Int)) = false := by simp; omega
  have z2 : (p.toNat : Int) / 8 * 8 < 256 := by omega
  have hcell : ((3 : Int)) = (u.toNat : Int) := by omega
  have HC : Hid ((#[Value.int .u8 (3 : Int)] : Array Value).toList = [u].map bv) := congrArg (fun z : Int => [Value.int .u8 z]) hcell
  clear hd hR h hcell hu
  go_enter Try.func19, Try.ntmps19
  go_wp2_with fail
  refine L.out.mono ?_
  rintro e w' ⟨rfl, rfl⟩
  go_wp2_with (at_builtin; refine wpList_apn _ _ rfl rfl rfl w.heap.size (some ⟨w.heap.size, 0, none⟩) 1 1 [u] rfl (own_lit w [u] 1 _ HC.out rfl (by omega)) _ n c bs rfl (HR.out.alloc _) (by omega) (by simp) ?_)
  intro A1 c1 w1 ho1 hg1
  have hb1 : Below w.heap.size w w1 := (kp_alloc (Below.refl _ _) _).grown hg1 (by simp) (fun g hg => by injection hg with hg; subst hg; exact Nat.le_refl _)
  have HO1 := Lib.hid ho1
  clear ho1 hg1
  go_wp2_with fail
  refine (BT.out _ _ _ HO1.out).mono ?_
  intro e w2 hp
  unfold BitsPost at hp
  rw [H.out] at hp
  obtain ⟨rfl, hb2⟩ := hp
  have HB := Lib.hid (kp_call hb1 hb2)
  have hp2 := kp_cell (kp_call hb1 hb2) hp
  clear hb1 hb2
  go_wp2
  go_quiet (fail)
  go_wp2_with fail
  refine (W.out _).mono ?_
  rintro e w' ⟨rfl, hb⟩
  go_wp2
  go_ret
  exact ⟨rfl, kp_call (kp_drewN HB.out _) hb⟩
theorem bitslaw_4y (u : UInt8) (k : Nat) (hu : u.toNat = k) (A : Option Addr) (n c : Nat) (bs : List UInt8) (w : World) (hR : RB w A n bs) (hn : n ≤ 8192) (h : bitsQ (u :: bs) = some (bs, k)) (hk : k = 4) (p : UInt8) (hn0 : 0 < n) (b off : Nat) (hA : A = some ⟨b, off, none⟩) (hp : w.cell? ⟨b, off + (n - 1), none⟩ = some (.int .u8 (p.toNat : Int))) (hz : p.toNat % 16 = 0) :
    Calls Try.prog 19 #[.int .u8 (4 : Int), .slice A n c] w fun e w' => e = .returned (.bool true) ∧ Below w.heap.size w w' := by
  have W := Lib.hid (fun W => works_any W)
  have L := Lib.hid (large_any A n c w)
  have hd : decide ((8192 : Int) < (n : Int)) = false := by simp; omega
  rw [hd] at L
  have BT := Lib.hid (fun (A1 : Option Addr) (c1 : Nat) (w1 : World) (ho : OwnB w1 w.heap.size A1 (1 + n) c1 (u :: bs)) => bits_any A1 (1 + n) c1 (u :: bs) w1 ho.rb ho.cap.1 (by omega) (by have := ho.cap.2; unfold maxLen at this; omega))
  have H := Lib.hid h
  have HR := Lib.hid hR
  subst hA
  subst hk
  have t2 : (0 : Int) < (n : Int) := by omega
  have hpl := World.block_lt_of_cell? w _ hp
  have i1 : ((n : Int) - 1).toNat = n - 1 := by omega
  have hp8 : (p.toNat : Int) ≤ 255 := by have := p.toNat_lt; omega
  have z : ((p.toNat : Int) / 16 * 16 == (p.toNat : Int)) = true := by rw [beq_iff_eq]; omega
  have z2 : (p.toNat : Int) / 16 * 16 < 256 := by omega
  have hcell : ((4 : Int)) = (u.toNat : Int) := by omega
  have HC : Hid ((#[Value.int .u8 (4 : Int)] : Array Value).toList = [u].map bv) := congrArg (fun z : Int => [Value.int .u8 z]) hcell
  clear hd hR h hcell hu
  go_enter Try.func19, Try.ntmps19
  go_wp2_with fail
  refine L.out.mono ?_
  rintro e w' ⟨rfl, rfl⟩
  go_wp2_with (at_builtin; refine wpList_apn _ _ rfl rfl rfl w.heap.size (some ⟨w.heap.size, 0, none⟩) 1 1 [u] rfl (own_lit w [u] 1 _ HC.out rfl (by omega)) _ n c bs rfl (HR.out.alloc _) (by omega) (by simp) ?_)
  intro A1 c1 w1 ho1 hg1
  have hb1 : Below w.heap.size w w1 := (kp_alloc (Below.refl _ _) _).grown hg1 (by simp) (fun g hg => by injection hg with hg; subst hg; exact Nat.le_refl _)
  have HO1 := Lib.hid ho1
  clear ho1 hg1
  go_wp2_with fail
  refine (BT.out _ _ _ HO1.out).mono ?_
  intro e w2 hp
  unfold BitsPost at hp
  rw [H.out] at hp
  obtain ⟨⟨A2, n2, c2, rfl, ho2⟩, hb2⟩ := hp
  have hR2 : RB w2 _ n bs := HR.out.below (hb1.trans (hb2.mono hb1.size))
  have E := Lib.hid (fun k => eq_any A2 _ n2 n c2 c bs bs (w2.drewN k) (ho2.rb.drewN k) (hR2.drewN k))
  have E0 := Lib.hid (eq_any A2 _ n2 n c2 c bs bs w2 ho2.rb hR2)
  have hbb : (bs == bs) = true := by simp
  rw [hbb] at E E0
  have HB := Lib.hid (kp_call hb1 hb2)
  have hp2 := kp_cell (kp_call hb1 hb2) hp
  clear hb1 hb2 ho2 hR2 hbb
  go_wp2
  go_quiet (fail)
  go_wp2_with fail
  refine (E.out _).mono ?_
  rintro e w' ⟨rfl, rfl⟩
  go_wp2_with fail
  refine (W.out _).mono ?_
  rintro e w' ⟨rfl, hb⟩
  go_wp2
  go_ret
  exact ⟨rfl, kp_call (kp_drewN HB.out _) hb⟩
theorem bitslaw_4n (u : UInt8) (k : Nat) (hu : u.toNat = k) (A : Option Addr) (n c : Nat) (bs : List UInt8) (w : World) (hR : RB w A n bs) (hn : n ≤ 8192) (h : bitsQ (u :: bs) = none) (hk : k = 4) (p : UInt8) (hn0 : 0 < n) (b off : Nat) (hA : A = some ⟨b, off, none⟩) (hp : w.cell? ⟨b, off + (n - 1), none⟩ = some (.int .u8 (p.toNat : Int))) (hz : p.toNat % 16 ≠ 0) :
    Calls Try.prog 19 #[.int .u8 (4 : Int), .slice A n c] w fun e w' => e = .returned (.bool true) ∧ Below w.heap.size w w' := by
  have W := Lib.hid (fun W => works_any W)
  have L := Lib.hid (large_any A n c w)
  have hd : decide ((8192 : Int) < (n : Int)) = false := by simp; omega
  rw [hd] at L
  have BT := Lib.hid (fun (A1 : Option Addr) (c1 : Nat) (w1 : World) (ho : OwnB w1 w.heap.size A1 (1 + n) c1 (u :: bs)) => bits_any A1 (1 + n) c1 (u :: bs) w1 ho.rb ho.cap.1 (by omega) (by have := ho.cap.2; unfold maxLen at this; omega))
  have H := Lib.hid h
  have HR := Lib.hid hR
  subst hA
  subst hk
  have t2 : (0 : Int) < (n : Int) := by omega
  have hpl := World.block_lt_of_cell? w _ hp
  have i1 : ((n : Int) - 1).toNat = n - 1 := by omega
  have hp8 : (p.toNat : Int) ≤ 255 := by have := p.toNat_lt; omega
  have z : ((p.toNat : Int) / 16 * 16 == (p.toNat : Int)) = false := by simp; omega
  have z2 : (p.toNat : Int) / 16 * 16 < 256 := by omega
  have hcell : ((4 : Int)) = (u.toNat : Int) := by omega
  have HC : Hid ((#[Value.int .u8 (4 : Int)] : Array Value).toList = [u].map bv) := congrArg (fun z : Int => [Value.int .u8 z]) hcell
  clear hd hR h hcell hu
  go_enter Try.func19, Try.ntmps19
  go_wp2_with fail
  refine L.out.mono ?_
  rintro e w' ⟨rfl, rfl⟩
  go_wp2_with (at_builtin; refine wpList_apn _ _ rfl rfl rfl w.heap.size (some ⟨w.heap.size, 0, none⟩) 1 1 [u] rfl (own_lit w [u] 1 _ HC.out rfl (by omega)) _ n c bs rfl (HR.out.alloc _) (by omega) (by simp) ?_)
  intro A1 c1 w1 ho1 hg1
  have hb1 : Below w.heap.size w w1 := (kp_alloc (Below.refl _ _) _).grown hg1 (by simp) (fun g hg => by injection hg with hg; subst hg; exact Nat.le_refl _)
  have HO1 := Lib.hid ho1
  clear ho1 hg1
  go_wp2_with fail
  refine (BT.out _ _ _ HO1.out).mono ?_
  intro e w2 hp
  unfold BitsPost at hp
  rw [H.out] at hp
  obtain ⟨rfl, hb2⟩ := hp
  have HB := Lib.hid (kp_call hb1 hb2)
  have hp2 := kp_cell (kp_call hb1 hb2) hp
  clear hb1 hb2
  go_wp2
  go_quiet (fail)
  go_wp2_with fail
  refine (W.out _).mono ?_
  rintro e w' ⟨rfl, hb⟩
  go_wp2
  go_ret
  exact ⟨rfl, kp_call (kp_drewN HB.out _) hb⟩
theorem bitslaw_5y (u : UInt8) (k : Nat) (hu : u.toNat = k) (A : Option Addr) (n c : Nat) (bs : List UInt8) (w : World) (hR : RB w A n bs) (hn : n ≤ 8192) (h : bitsQ (u :: bs) = some (bs, k)) (hk : k = 5) (p : UInt8) (hn0 : 0 < n) (b off : Nat) (hA : A = some ⟨b, off, none⟩) (hp : w.cell? ⟨b, off + (n - 1), none⟩ = some (.int .u8 (p.toNat : Int))) (hz : p.toNat % 32 = 0) :
    Calls Try.prog 19 #[.int .u8 (5 : Int), .slice A n c] w fun e w' => e = .returned (.bool true) ∧ Below w.heap.size w w' := by
  have W := Lib.hid (fun W => works_any W)
  have L := Lib.hid (large_any A n c w)
  have hd : decide ((8192 : Int) < (n : Int)) = false := by simp; omega
  rw [hd] at L
  have BT := Lib.hid (fun (A1 : Option Addr) (c1 : Nat) (w1 : World) (ho : OwnB w1 w.heap.size A1 (1 + n) c1 (u :: bs)) => bits_any A1 (1 + n) c1 (u :: bs) w1 ho.rb ho.cap.1 (by omega) (by have := ho.cap.2; unfold maxLen at this; omega))
  have H := Lib.hid h
  have HR := Lib.hid hR
  subst hA
  subst hk
  have t2 : (0 : Int) < (n : Int) := by omega
  have hpl := World.block_lt_of_cell? w _ hp
  have i1 : ((n : Int) - 1).toNat = n - 1 := by omega
  have hp8 : (p.toNat : Int) ≤ 255 := by have := p.toNat_lt; omega
  have z : ((p.toNat : Int) / 32 * 32 == (p.toNat : Int)) = true := by rw [beq_iff_eq]; omega
  have z2 : (p.toNat : Int) / 32 * 32 < 256 := by omega
  have hcell : ((5 : Int)) = (u.toNat : Int) := by omega
  have HC : Hid ((#[Value.int .u8 (5 : Int)] : Array Value).toList = [u].map bv) := congrArg (fun z : Int => [Value.int .u8 z]) hcell
  clear hd hR h hcell hu
  go_enter Try.func19, Try.ntmps19
  go_wp2_with fail
  refine L.out.mono ?_
  rintro e w' ⟨rfl, rfl⟩
  go_wp2_with (at_builtin; refine wpList_apn _ _ rfl rfl rfl w.heap.size (some ⟨w.heap.size, 0, none⟩) 1 1 [u] rfl (own_lit w [u] 1 _ HC.out rfl (by omega)) _ n c bs rfl (HR.out.alloc _) (by omega) (by simp) ?_)
  intro A1 c1 w1 ho1 hg1
  have hb1 : Below w.heap.size w w1 := (kp_alloc (Below.refl _ _) _).grown hg1 (by simp) (fun g hg => by injection hg with hg; subst hg; exact Nat.le_refl _)
  have HO1 := Lib.hid ho1
  clear ho1 hg1
  go_wp2_with fail
  refine (BT.out _ _ _ HO1.out).mono ?_
  intro e w2 hp
  unfold BitsPost at hp
  rw [H.out] at hp
  obtain ⟨⟨A2, n2, c2, rfl, ho2⟩, hb2⟩ := hp
  have hR2 : RB w2 _ n bs := HR.out.below (hb1.trans (hb2.mono hb1.size))
  have E := Lib.hid (fun k => eq_any A2 _ n2 n c2 c bs bs (w2.drewN k) (ho2.rb.drewN k) (hR2.drewN k))
  have E0 := Lib.hid (eq_any A2 _ n2 n c2 c bs bs w2 ho2.rb hR2)
  have hbb : (bs == bs) = true := by simp
  rw [hbb] at E E0
  have HB := Lib.hid (kp_call hb1 hb2)
  have hp2 := kp_cell (kp_call hb1 hb2) hp
  clear hb1 hb2 ho2 hR2 hbb
  go_wp2
  go_quiet (fail)
  go_wp2_with fail
  refine (E.out _).mono ?_
  rintro e w' ⟨rfl, rfl⟩
  go_wp2_with fail
  refine (W.out _).mono ?_
  rintro e w' ⟨rfl, hb⟩
  go_wp2
  go_ret
  exact ⟨rfl, kp_call (kp_drewN HB.out _) hb⟩
theorem bitslaw_5n (u : UInt8) (k : Nat) (hu : u.toNat = k) (A : Option Addr) (n c : Nat) (bs : List UInt8) (w : World) (hR : RB w A n bs) (hn : n ≤ 8192) (h : bitsQ (u :: bs) = none) (hk : k = 5) (p : UInt8) (hn0 : 0 < n) (b off : Nat) (hA : A = some ⟨b, off, none⟩) (hp : w.cell? ⟨b, off + (n - 1), none⟩ = some (.int .u8 (p.toNat : Int))) (hz : p.toNat % 32 ≠ 0) :
    Calls Try.prog 19 #[.int .u8 (5 : Int), .slice A n c] w fun e w' => e = .returned (.bool true) ∧ Below w.heap.size w w' := by
  have W := Lib.hid (fun W => works_any W)
  have L := Lib.hid (large_any A n c w)
  have hd : decide ((8192 : Int) < (n : Int)) = false := by simp; omega
  rw [hd] at L
  have BT := Lib.hid (fun (A1 : Option Addr) (c1 : Nat) (w1 : World) (ho : OwnB w1 w.heap.size A1 (1 + n) c1 (u :: bs)) => bits_any A1 (1 + n) c1 (u :: bs) w1 ho.rb ho.cap.1 (by omega) (by have := ho.cap.2; unfold maxLen at this; omega))
  have H := Lib.hid h
  have HR := Lib.hid hR
  subst hA
  subst hk
  have t2 : (0 : Int) < (n : Int) := by omega
  have hpl := World.block_lt_of_cell? w _ hp
  have i1 : ((n : Int) - 1).toNat = n - 1 := by omega
  have hp8 : (p.toNat : Int) ≤ 255 := by have := p.toNat_lt; omega
  have z : ((p.toNat : Int) / 32 * 32 == (p.toNat : Int)) = false := by simp; omega
  have z2 : (p.toNat : Int) / 32 * 32 < 256 := by omega
  have hcell : ((5 : Int)) = (u.toNat : Int) := by omega
  have HC : Hid ((#[Value.int .u8 (5 : Int)] : Array Value).toList = [u].map bv) := congrArg (fun z : Int => [Value.int .u8 z]) hcell
  clear hd hR h hcell hu
  go_enter Try.func19, Try.ntmps19
  go_wp2_with fail
  refine L.out.mono ?_
  rintro e w' ⟨rfl, rfl⟩
  go_wp2_with (at_builtin; refine wpList_apn _ _ rfl rfl rfl w.heap.size (some ⟨w.heap.size, 0, none⟩) 1 1 [u] rfl (own_lit w [u] 1 _ HC.out rfl (by omega)) _ n c bs rfl (HR.out.alloc _) (by omega) (by simp) ?_)
  intro A1 c1 w1 ho1 hg1
  have hb1 : Below w.heap.size w w1 := (kp_alloc (Below.refl _ _) _).grown hg1 (by simp) (fun g hg => by injection hg with hg; subst hg; exact Nat.le_refl _)
  have HO1 := Lib.hid ho1
  clear ho1 hg1
  go_wp2_with fail
  refine (BT.out _ _ _ HO1.out).mono ?_
  intro e w2 hp
  unfold BitsPost at hp
  rw [H.out] at hp
  obtain ⟨rfl, hb2⟩ := hp
  have HB := Lib.hid (kp_call hb1 hb2)
  have hp2 := kp_cell (kp_call hb1 hb2) hp
  clear hb1 hb2
  go_wp2
  go_quiet (fail)
  go_wp2_with fail
  refine (W.out _).mono ?_
  rintro e w' ⟨rfl, hb⟩
  go_wp2
  go_ret
  exact ⟨rfl, kp_call (kp_drewN HB.out _) hb⟩
theorem bitslaw_6y (u : UInt8) (k : Nat) (hu : u.toNat = k) (A : Option Addr) (n c : Nat) (bs : List UInt8) (w : World) (hR : RB w A n bs) (hn : n ≤ 8192) (h : bitsQ (u :: bs) = some (bs, k)) (hk : k = 6) (p : UInt8) (hn0 : 0 < n) (b off : Nat) (hA : A = some ⟨b, off, none⟩) (hp : w.cell? ⟨b, off + (n - 1), none⟩ = some (.int .u8 (p.toNat : Int))) (hz : p.toNat % 64 = 0) :
    Calls Try.prog 19 #[.int .u8 (6 : Int), .slice A n c] w fun e w' => e = .returned (.bool true) ∧ Below w.heap.size w w' := by
  have W := Lib.hid (fun W => works_any W)
  have L := Lib.hid (large_any A n c w)
  have hd : decide ((8192 : Int) < (n : Int)) = false := by simp; omega
  rw [hd] at L
  have BT := Lib.hid (fun (A1 : Option Addr) (c1 : Nat) (w1 : World) (ho : OwnB w1 w.heap.size A1 (1 + n) c1 (u :: bs)) => bits_any A1 (1 + n) c1 (u :: bs) w1 ho.rb ho.cap.1 (by omega) (by have := ho.cap.2; unfold maxLen at this; omega))
  have H := Lib.hid h
  have HR := Lib.hid hR
  subst hA
  subst hk
  have t2 : (0 : Int) < (n : Int) := by omega
  have hpl := World.block_lt_of_cell? w _ hp
  have i1 : ((n : Int) - 1).toNat = n - 1 := by omega
  have hp8 : (p.toNat : Int) ≤ 255 := by have := p.toNat_lt; omega
  have z : ((p.toNat : Int) / 64 * 64 == (p.toNat : Int)) = true := by rw [beq_iff_eq]; omega
  have z2 : (p.toNat : Int) / 64 * 64 < 256 := by omega
  have hcell : ((6 : Int)) = (u.toNat : Int) := by omega
  have HC : Hid ((#[Value.int .u8 (6 : Int)] : Array Value).toList = [u].map bv) := congrArg (fun z : Int => [Value.int .u8 z]) hcell
  clear hd hR h hcell hu
  go_enter Try.func19, Try.ntmps19
  go_wp2_with fail
  refine L.out.mono ?_
  rintro e w' ⟨rfl, rfl⟩
  go_wp2_with (at_builtin; refine wpList_apn _ _ rfl rfl rfl w.heap.size (some ⟨w.heap.size, 0, none⟩) 1 1 [u] rfl (own_lit w [u] 1 _ HC.out rfl (by omega)) _ n c bs rfl (HR.out.alloc _) (by omega) (by simp) ?_)
  intro A1 c1 w1 ho1 hg1
  have hb1 : Below w.heap.size w w1 := (kp_alloc (Below.refl _ _) _).grown hg1 (by simp) (fun g hg => by injection hg with hg; subst hg; exact Nat.le_refl _)
  have HO1 := Lib.hid ho1
  clear ho1 hg1
  go_wp2_with fail
  refine (BT.out _ _ _ HO1.out).mono ?_
  intro e w2 hp
  unfold BitsPost at hp
  rw [H.out] at hp
  obtain ⟨⟨A2, n2, c2, rfl, ho2⟩, hb2⟩ := hp
  have hR2 : RB w2 _ n bs := HR.out.below (hb1.trans (hb2.mono hb1.size))
  have E := Lib.hid (fun k => eq_any A2 _ n2 n c2 c bs bs (w2.drewN k) (ho2.rb.drewN k) (hR2.drewN k))
  have E0 := Lib.hid (eq_any A2 _ n2 n c2 c bs bs w2 ho2.rb hR2)
  have hbb : (bs == bs) = true := by simp
  rw [hbb] at E E0
  have HB := Lib.hid (kp_call hb1 hb2)
  have hp2 := kp_cell (kp_call hb1 hb2) hp
  clear hb1 hb2 ho2 hR2 hbb
  go_wp2
  go_quiet (fail)
  go_wp2_with fail
  refine (E.out _).mono ?_
  rintro e w' ⟨rfl, rfl⟩
  go_wp2_with fail
  refine (W.out _).mono ?_
  rintro e w' ⟨rfl, hb⟩
  go_wp2
  go_ret
  exact ⟨rfl, kp_call (kp_drewN HB.out _) hb⟩
theorem bitslaw_6n (u : UInt8) (k : Nat) (hu : u.toNat = k) (A : Option Addr) (n c : Nat) (bs : List UInt8) (w : World) (hR : RB w A n bs) (hn : n ≤ 8192) (h : bitsQ (u :: bs) = none) (hk : k = 6) (p : UInt8) (hn0 : 0 < n) (b off : Nat) (hA : A = some ⟨b, off, none⟩) (hp : w.cell? ⟨b, off + (n - 1), none⟩ = some (.int .u8 (p.toNat : Int))) (hz : p.toNat % 64 ≠ 0) :
    Calls Try.prog 19 #[.int .u8 (6 : Int), .slice A n c] w fun e w' => e = .returned (.bool true) ∧ Below w.heap.size w w' := by
  have W := Lib.hid (fun W => works_any W)
  have L := Lib.hid (large_any A n c w)
  have hd : decide ((8192 : Int) < (n : Int)) = false := by simp; omega
  rw [hd] at L
  have BT := Lib.hid (fun (A1 : Option Addr) (c1 : Nat) (w1 : World) (ho : OwnB w1 w.heap.size A1 (1 + n) c1 (u :: bs)) => bits_any A1 (1 + n) c1 (u :: bs) w1 ho.rb ho.cap.1 (by omega) (by have := ho.cap.2; unfold maxLen at this; omega))
  have H := Lib.hid h
  have HR := Lib.hid hR
  subst hA
  subst hk
  have t2 : (0 : Int) < (n : Int) := by omega
  have hpl := World.block_lt_of_cell? w _ hp
  have i1 : ((n : Int) - 1).toNat = n - 1 := by omega
  have hp8 : (p.toNat : Int) ≤ 255 := by have := p.toNat_lt; omega
  have z : ((p.toNat : Int) / 64 * 64 == (p.toNat : Int)) = false := by simp; omega
  have z2 : (p.toNat : Int) / 64 * 64 < 256 := by omega
  have hcell : ((6 : Int)) = (u.toNat : Int) := by omega
  have HC : Hid ((#[Value.int .u8 (6 : Int)] : Array Value).toList = [u].map bv) := congrArg (fun z : Int => [Value.int .u8 z]) hcell
  clear hd hR h hcell hu
  go_enter Try.func19, Try.ntmps19
  go_wp2_with fail
  refine L.out.mono ?_
  rintro e w' ⟨rfl, rfl⟩
  go_wp2_with (at_builtin; refine wpList_apn _ _ rfl rfl rfl w.heap.size (some ⟨w.heap.size, 0, none⟩) 1 1 [u] rfl (own_lit w [u] 1 _ HC.out rfl (by omega)) _ n c bs rfl (HR.out.alloc _) (by omega) (by simp) ?_)
  intro A1 c1 w1 ho1 hg1
  have hb1 : Below w.heap.size w w1 := (kp_alloc (Below.refl _ _) _).grown hg1 (by simp) (fun g hg => by injection hg with hg; subst hg; exact Nat.le_refl _)
  have HO1 := Lib.hid ho1
  clear ho1 hg1
  go_wp2_with fail
  refine (BT.out _ _ _ HO1.out).mono ?_
  intro e w2 hp
  unfold BitsPost at hp
  rw [H.out] at hp
  obtain ⟨rfl, hb2⟩ := hp
  have HB := Lib.hid (kp_call hb1 hb2)
  have hp2 := kp_cell (kp_call hb1 hb2) hp
  clear hb1 hb2
  go_wp2
  go_quiet (fail)
  go_wp2_with fail
  refine (W.out _).mono ?_
  rintro e w' ⟨rfl, hb⟩
  go_wp2
  go_ret
  exact ⟨rfl, kp_call (kp_drewN HB.out _) hb⟩
theorem bitslaw_7y (u : UInt8) (k : Nat) (hu : u.toNat = k) (A : Option Addr) (n c : Nat) (bs : List UInt8) (w : World) (hR : RB w A n bs) (hn : n ≤ 8192) (h : bitsQ (u :: bs) = some (bs, k)) (hk : k = 7) (p : UInt8) (hn0 : 0 < n) (b off : Nat) (hA : A = some ⟨b, off, none⟩) (hp : w.cell? ⟨b, off + (n - 1), none⟩ = some (.int .u8 (p.toNat : Int))) (hz : p.toNat % 128 = 0) :
    Calls Try.prog 19 #[.int .u8 (7 : Int), .slice A n c] w fun e w' => e = .returned (.bool true) ∧ Below w.heap.size w w' := by
  have W := Lib.hid (fun W => works_any W)
  have L := Lib.hid (large_any A n c w)
  have hd : decide ((8192 : Int) < (n : Int)) = false := by simp; omega
  rw [hd] at L
  have BT := Lib.hid (fun (A1 : Option Addr) (c1 : Nat) (w1 : World) (ho : OwnB w1 w.heap.size A1 (1 + n) c1 (u :: bs)) => bits_any A1 (1 + n) c1 (u :: bs) w1 ho.rb ho.cap.1 (by omega) (by have := ho.cap.2; unfold maxLen at this; omega))
  have H := Lib.hid h
  have HR := Lib.hid hR
  subst hA
  subst hk
  have t2 : (0 : Int) < (n : Int) := by omega
  have hpl := World.block_lt_of_cell? w _ hp
  have i1 : ((n : Int) - 1).toNat = n - 1 := by omega
  have hp8 : (p.toNat : Int) ≤ 255 := by have := p.toNat_lt; omega
  have z : ((p.toNat : Int) / 128 * 128 == (p.toNat : Int)) = true := by rw [beq_iff_eq]; omega
  have z2 : (p.toNat : Int) / 128 * 128 < 256 := by omega
  have hcell : ((7 : Int)) = (u.toNat : Int) := by omega
  have HC : Hid ((#[Value.int .u8 (7 : Int)] : Array Value).toList = [u].map bv) := congrArg (fun z : Int => [Value.int .u8 z]) hcell
  clear hd hR h hcell hu
  go_enter Try.func19, Try.ntmps19
  go_wp2_with fail
  refine L.out.mono ?_
  rintro e w' ⟨rfl, rfl⟩
  go_wp2_with (at_builtin; refine wpList_apn _ _ rfl rfl rfl w.heap.size (some ⟨w.heap.size, 0, none⟩) 1 1 [u] rfl (own_lit w [u] 1 _ HC.out rfl (by omega)) _ n c bs rfl (HR.out.alloc _) (by omega) (by simp) ?_)
  intro A1 c1 w1 ho1 hg1
  have hb1 : Below w.heap.size w w1 := (kp_alloc (Below.refl _ _) _).grown hg1 (by simp) (fun g hg => by injection hg with hg; subst hg; exact Nat.le_refl _)
  have HO1 := Lib.hid ho1
  clear ho1 hg1
  go_wp2_with fail
  refine (BT.out _ _ _ HO1.out).mono ?_
  intro e w2 hp
  unfold BitsPost at hp
  rw [H.out] at hp
  obtain ⟨⟨A2, n2, c2, rfl, ho2⟩, hb2⟩ := hp
  have hR2 : RB w2 _ n bs := HR.out.below (hb1.trans (hb2.mono hb1.size))
  have E := Lib.hid (fun k => eq_any A2 _ n2 n c2 c bs bs (w2.drewN k) (ho2.rb.drewN k) (hR2.drewN k))
  have E0 := Lib.hid (eq_any A2 _ n2 n c2 c bs bs w2 ho2.rb hR2)
  have hbb : (bs == bs) = true := by simp
  rw [hbb] at E E0
  have HB := Lib.hid (kp_call hb1 hb2)
  have hp2 := kp_cell (kp_call hb1 hb2) hp
  clear hb1 hb2 ho2 hR2 hbb
  go_wp2
  go_quiet (fail)
  go_wp2_with fail
  refine (E.out _).mono ?_
  rintro e w' ⟨rfl, rfl⟩
  go_wp2_with fail
  refine (W.out _).mono ?_
  rintro e w' ⟨rfl, hb⟩
  go_wp2
  go_ret
  exact ⟨rfl, kp_call (kp_drewN HB.out _) hb⟩
theorem bitslaw_7n (u : UInt8) (k : Nat) (hu : u.toNat = k) (A : Option Addr) (n c : Nat) (bs : List UInt8) (w : World) (hR : RB w A n bs) (hn : n ≤ 8192) (h : bitsQ (u :: bs) = none) (hk : k = 7) (p : UInt8) (hn0 : 0 < n) (b off : Nat) (hA : A = some ⟨b, off, none⟩) (hp : w.cell? ⟨b, off + (n - 1), none⟩ = some (.int .u8 (p.toNat : Int))) (hz : p.toNat % 128 ≠ 0) :
    Calls Try.prog 19 #[.int .u8 (7 : Int), .slice A n c] w fun e w' => e = .returned (.bool true) ∧ Below w.heap.size w w' := by
  have W := Lib.hid (fun W => works_any W)
  have L := Lib.hid (large_any A n c w)
  have hd : decide ((8192 : Int) < (n : Int)) = false := by simp; omega
  rw [hd] at L
  have BT := Lib.hid (fun (A1 : Option Addr) (c1 : Nat) (w1 : World) (ho : OwnB w1 w.heap.size A1 (1 + n) c1 (u :: bs)) => bits_any A1 (1 + n) c1 (u :: bs) w1 ho.rb ho.cap.1 (by omega) (by have := ho.cap.2; unfold maxLen at this; omega))
  have H := Lib.hid h
  have HR := Lib.hid hR
  subst hA
  subst hk
  have t2 : (0 : Int) < (n : Int) := by omega
  have hpl := World.block_lt_of_cell? w _ hp
  have i1 : ((n : Int) - 1).toNat = n - 1 := by omega
  have hp8 : (p.toNat : Int) ≤ 255 := by have := p.toNat_lt; omega
  have z : ((p.toNat : Int) / 128 * 128 == (p.toNat : Int)) = false := by simp; omega
  have z2 : (p.toNat : Int) / 128 * 128 < 256 := by omega
  have hcell : ((7 : Int)) = (u.toNat : Int) := by omega
  have HC : Hid ((#[Value.int .u8 (7 : Int)] : Array Value).toList = [u].map bv) := congrArg (fun z : Int => [Value.int .u8 z]) hcell
  clear hd hR h hcell hu
  go_enter Try.func19, Try.ntmps19
  go_wp2_with fail
  refine L.out.mono ?_
  rintro e w' ⟨rfl, rfl⟩
  go_wp2_with (at_builtin; refine wpList_apn _ _ rfl rfl rfl w.heap.size (some ⟨w.heap.size, 0, none⟩) 1 1 [u] rfl (own_lit w [u] 1 _ HC.out rfl (by omega)) _ n c bs rfl (HR.out.alloc _) (by omega) (by simp) ?_)
  intro A1 c1 w1 ho1 hg1
  have hb1 : Below w.heap.size w w1 := (kp_alloc (Below.refl _ _) _).grown hg1 (by simp) (fun g hg => by injection hg with hg; subst hg; exact Nat.le_refl _)
  have HO1 := Lib.hid ho1
  clear ho1 hg1
  go_wp2_with fail
  refine (BT.out _ _ _ HO1.out).mono ?_
  intro e w2 hp
  unfold BitsPost at hp
  rw [H.out] at hp
  obtain ⟨rfl, hb2⟩ := hp
  have HB := Lib.hid (kp_call hb1 hb2)
  have hp2 := kp_cell (kp_call hb1 hb2) hp
  clear hb1 hb2
  go_wp2
  go_quiet (fail)
  go_wp2_with fail
  refine (W.out _).mono ?_
  rintro e w' ⟨rfl, hb⟩
  go_wp2
  go_ret
  exact ⟨rfl, kp_call (kp_drewN HB.out _) hb⟩
theorem bitslaw_row (a : Int) (A : Option Addr) (n c : Nat) (bs : List UInt8) (w : World) (hw : (Lit.int .u8 a).wf = true) (h : IsBs w A n c bs) :
    Calls Try.prog 19 #[.int .u8 a, .slice A n c] w fun e w' => e = .returned (.bool true) ∧ Below w.heap.size w w' := by
  have hb := bounds_u8 hw
  obtain ⟨k, rfl⟩ := Int.eq_ofNat_of_zero_le (show 0 ≤ a by omega)
  have hk8 : k < 256 := by omega
  have hR := h.rb
  have hl := h.len
  by_cases hbig : 8192 < n
  · exact bitslaw_big _ A n c w hbig
  obtain ⟨u, hu⟩ : ∃ u : UInt8, u.toNat = k := ⟨UInt8.ofNat k, by rw [UInt8.toNat_ofNat']; omega⟩
  by_cases h7 : 7 < k
  · exact bitslaw_over u k hu A n c bs w hR (by omega) (by simp only [bitsQ]; rw [if_pos (.inl (by omega))]) h7 hk8
  by_cases h0 : n = 0
  · obtain rfl : bs = [] := List.length_eq_zero_iff.1 (by omega)
    by_cases hk0 : k = 0
    · subst hk0
      exact bitslaw_nil u 0 hu A n c [] w hR (by omega) (by simp only [bitsQ]; rw [if_neg (by omega), if_neg (by rw [hu, Nat.pow_zero]; omega), hu]) rfl h0
    · exact bitslaw_none u k hu A n c [] w hR (by omega) (by simp only [bitsQ]; rw [if_pos (.inr ⟨by omega, trivial⟩)]) (by omega) (by omega) h0
  obtain ⟨b, off, p, rfl, _, hp, cp⟩ := hR.at_ (k := n - 1) (by omega)
  have hne : bs ≠ [] := by rintro rfl; simp at hp
  have hlast : (u :: bs).getLastD 0 = p := by
    rw [List.getLastD_eq_getLast?, List.getLast?_eq_getElem?]
    simp only [List.length_cons, hl, Nat.add_sub_cancel]
    rw [show n = (n - 1) + 1 by omega, List.getElem?_cons_succ, hp]; rfl
  have hq : bitsQ (u :: bs) = if p.toNat % 2 ^ k ≠ 0 then none else some (bs, k) := by
    simp only [bitsQ]
    rw [if_neg (by rintro (h | ⟨h, h2⟩); omega; exact hne h2), hlast, hu]
  by_cases hk0 : k = 0
  · subst hk0
    exact bitslaw_0y u 0 hu _ n c bs w hR (by omega) (hq.trans (if_neg (by rw [Nat.pow_zero]; omega))) rfl p (by omega) b off rfl cp (by omega)
  by_cases hk1 : k = 1
  · subst hk1
    by_cases hz : p.toNat % 2 = 0
    · exact bitslaw_1y u 1 hu _ n c bs w hR (by omega) (hq.trans (if_neg (by omega))) rfl p (by omega) b off rfl cp hz
    · exact bitslaw_1n u 1 hu _ n c bs w hR (by omega) (hq.trans (if_pos (by omega))) rfl p (by omega) b off rfl cp hz
  by_cases hk2 : k = 2
  · subst hk2
    by_cases hz : p.toNat % 4 = 0
    · exact bitslaw_2y u 2 hu _ n c bs w hR (by omega) (hq.trans (if_neg (by omega))) rfl p (by omega) b off rfl cp hz
    · exact bitslaw_2n u 2 hu _ n c bs w hR (by omega) (hq.trans (if_pos (by omega))) rfl p (by omega) b off rfl cp hz
  by_cases hk3 : k = 3
  · subst hk3
    by_cases hz : p.toNat % 8 = 0
    · exact bitslaw_3y u 3 hu _ n c bs w hR (by omega) (hq.trans (if_neg (by omega))) rfl p (by omega) b off rfl cp hz
    · exact bitslaw_3n u 3 hu _ n c bs w hR (by omega) (hq.trans (if_pos (by omega))) rfl p (by omega) b off rfl cp hz
  by_cases hk4 : k = 4
  · subst hk4
    by_cases hz : p.toNat % 16 = 0
    · exact bitslaw_4y u 4 hu _ n c bs w hR (by omega) (hq.trans (if_neg (by omega))) rfl p (by omega) b off rfl cp hz
    · exact bitslaw_4n u 4 hu _ n c bs w hR (by omega) (hq.trans (if_pos (by omega))) rfl p (by omega) b off rfl cp hz
  by_cases hk5 : k = 5
  · subst hk5
    by_cases hz : p.toNat % 32 = 0
    · exact bitslaw_5y u 5 hu _ n c bs w hR (by omega) (hq.trans (if_neg (by omega))) rfl p (by omega) b off rfl cp hz
    · exact bitslaw_5n u 5 hu _ n c bs w hR (by omega) (hq.trans (if_pos (by omega))) rfl p (by omega) b off rfl cp hz
  by_cases hk6 : k = 6
  · subst hk6
    by_cases hz : p.toNat % 64 = 0
    · exact bitslaw_6y u 6 hu _ n c bs w hR (by omega) (hq.trans (if_neg (by omega))) rfl p (by omega) b off rfl cp hz
    · exact bitslaw_6n u 6 hu _ n c bs w hR (by omega) (hq.trans (if_pos (by omega))) rfl p (by omega) b off rfl cp hz
  by_cases hk7 : k = 7
  · subst hk7
    by_cases hz : p.toNat % 128 = 0
    · exact bitslaw_7y u 7 hu _ n c bs w hR (by omega) (hq.trans (if_neg (by omega))) rfl p (by omega) b off rfl cp hz
    · exact bitslaw_7n u 7 hu _ n c bs w hR (by omega) (hq.trans (if_pos (by omega))) rfl p (by omega) b off rfl cp hz
  omega
end Go.Proofs.Ytlkiobngafjeiaa

/-
  pe: an image's numbers, as plain data; the reader's number, has and need.
-/
import Derived.Test.YtcedojmhgmgcgaaGreatDoorOctB2
import Derived.Test.YtcedojmhgmgcgaaGreatDoorOctC1
import Derived.Test.YtcedojmhgmgcgaaGreatDoorSg
import Derived.Test.YtcedojmhgmgcgaaGreatDoorRow
import Derived.Deep.Cut
import Derived.Deep.DeepCutAuto
import Derived.Test.YtcedojmhgmgcgaaGreatDoorRg
import Derived.Stop.RegionWithIn
namespace Go.Proofs.YtcedojmhgmgcgaaGreatDoor
open Go.RowKit Go
set_option linter.unusedVariables false
set_option maxRecDepth 100000
/-- The number of k bytes at a place; 0 where it is not within. -/
def numQ (bs : List UInt8) (a k : Nat) : Nat := if a + k ≤ bs.length then leN (cut bs a k) else 0
def inQ (bs : List UInt8) (a k : Nat) : Bool := decide (a + k ≤ bs.length)
theorem numQ_lt (bs : List UInt8) (a k : Nat) : numQ bs a k < 256 ^ k := by
  unfold numQ
  split
  · rename_i h
    have := leN_lt (cut bs a k)
    rwa [cut_len _ _ _ h] at this
  · exact Nat.pow_pos (by decide)
theorem numQ_lt4 (bs : List UInt8) (a : Nat) : numQ bs a 4 < 4294967296 := numQ_lt bs a 4
theorem numQ_lt2 (bs : List UInt8) (a : Nat) : numQ bs a 2 < 65536 := numQ_lt bs a 2
/-- An image's bytes, as they came in. -/
structure Img (w0 : World) (A : Option Addr) (n c : Nat) (bs : List UInt8) : Prop where
  r : RB w0 A n bs
  s : Sizes w0
  nc : n ≤ c
  cc : c ≤ 9223372036854775807
  big : n ≤ 16777216
/-- The reader in block g; what came in is as it was. -/
structure RdS (w0 : World) (g : Nat) (A : Option Addr) (n c : Nat) (R : Bool) (w : World) : Prop where
  h : w.heap[g]? = some (.cells #[.slice A n c, .bool R] 67)
  b : Below w0.heap.size w0 w
  g : w0.heap.size ≤ g
theorem RdS.step {w0 : World} {g : Nat} {A : Option Addr} {n c : Nat} {R R' : Bool} {w w' : World} (h : RdS w0 g A n c R w) (hg : w.grownBy w' (some g)) (h' : w'.heap[g]? = some (.cells #[.slice A n c, .bool R'] 67)) : RdS w0 g A n c R' w' :=
  ⟨h', h.b.grown hg h.b.size (fun k hk => by injection hk with hk; have := h.g; omega), h.g⟩
theorem RdS.keep {w0 : World} {g : Nat} {A : Option Addr} {n c : Nat} {R : Bool} {w w' : World} (h : RdS w0 g A n c R w) (hb : Below w.heap.size w w') : RdS w0 g A n c R w' :=
  ⟨has_below h.h hb, kp_call h.b hb, h.g⟩
theorem RdS.alloc {w0 : World} {g : Nat} {A : Option Addr} {n c : Nat} {R : Bool} {w : World} (h : RdS w0 g A n c R w) (o : Obj) : RdS w0 g A n c R (w.alloc o) := ⟨has_alloc h.h o, kp_alloc h.b o, h.g⟩
theorem RdS.drewN {w0 : World} {g : Nat} {A : Option Addr} {n c : Nat} {R : Bool} {w : World} (h : RdS w0 g A n c R w) (k : Nat) : RdS w0 g A n c R (w.drewN k) := ⟨h.h, kp_drewN h.b k, h.g⟩
theorem RdS.set {w0 : World} {g : Nat} {A : Option Addr} {n c : Nat} {R : Bool} {w : World} (h : RdS w0 g A n c R w) {q j : Nat} {u : Value} (hq : w0.heap.size ≤ q) (hne : g ≠ q) : RdS w0 g A n c R (w.setCell ⟨q, j, none⟩ u) :=
  ⟨has_set h.h hne, kp_set h.b hq, h.g⟩
theorem RdS.far {w0 : World} {g : Nat} {A : Option Addr} {n c : Nat} {R : Bool} {w w' : World} (h : RdS w0 g A n c R w) {q : Nat} (hg : w.grownBy w' (some q)) (hq : w0.heap.size ≤ q) (hne : g ≠ q) : RdS w0 g A n c R w' :=
  ⟨(hg.block g (block_lt h.h) (fun e => hne (Option.some.inj e))).trans h.h, h.b.grown hg h.b.size (fun k hk => by injection hk with hk; omega), h.g⟩
/-- What happens in a block that is new leaves what was as it is. -/
theorem gr_far {w W W' : World} {row : Option Nat} {q : Nat} (h : w.grownBy W row) (hg : W.grownBy W' (some q)) (hq : w.heap.size ≤ q) : w.grownBy W' row :=
  ⟨hg.os.trans h.os, hg.tape.trans h.tape, hg.output.trans h.output, Nat.le_trans h.size hg.size, fun i hi hne => (hg.block i (Nat.lt_of_lt_of_le hi h.size) (fun e => by injection e with e; omega)).trans (h.block i hi hne)⟩
/-- What leaves all but one block as it was, from an older world's view. -/
theorem gr_new {w W W' : World} {row : Option Nat} (h : w.grownBy W row) (hb : Below w.heap.size W W') : w.grownBy W' row :=
  ⟨hb.os.trans h.os, hb.tape.trans h.tape, hb.output.trans h.output, Nat.le_trans h.size hb.size, fun i hi hne => (hb.block i hi).trans (h.block i hi hne)⟩
section
variable {w0 : World} {g : Nat} {A : Option Addr} {n c : Nat} {bs : List UInt8} {R : Bool} {w : World}
theorem need_any (hb : Bool) (h : RdS w0 g A n c R w) :
    Calls Tryz.prog 53 #[.pointer (some ⟨g, 0, none⟩), .bool hb] w fun e w' => e = .returned (.tuple #[]) ∧ RdS w0 g A n c (R && hb) w' ∧ w.grownBy w' (some g) := by
  obtain ⟨c0, c1⟩ := cells_2 h.h
  obtain ⟨f0, f1⟩ := free_2 h.h
  have H := Lib.hid h
  have key : ∀ b, RdS w0 g A n c b (w.setCell ⟨g, 1, none⟩ (.bool b)) := fun b => H.out.step (grown_one w g 1 _) (by
    have h1 := heap_set_at _ g 1 _ _ _ (.bool b) H.out.h
    simp only [List.setIfInBounds_toArray, List.set_cons_zero, List.set_cons_succ] at h1
    exact h1)
  have HK := Lib.hid key
  clear h key
  cases R with
  | false =>
    go_enter Tryz.func53, Tryz.ntmps53
    go_wp2
    go_end0
    exact ⟨rfl, HK.out false, grown_one w g 1 _⟩
  | true =>
    go_enter Tryz.func53, Tryz.ntmps53
    go_wp2
    go_end0
    exact ⟨rfl, HK.out hb, grown_one w g 1 _⟩
theorem number_any (hI : Img w0 A n c bs) (ai : Int) (a k : Nat) (ha : ai = (a : Int)) (ha2 : a ≤ 1099511627776) (hk : k = 2 ∨ k = 4) (ki : Int) (hki : ki = (k : Int)) (h : RdS w0 g A n c R w) :
    Calls Tryz.prog 31 #[.pointer (some ⟨g, 0, none⟩), .int .i64 ai, .int .i64 ki] w fun e w' => e = .returned (.int .i64 (numQ bs a k : Nat)) ∧ RdS w0 g A n c (R && inQ bs a k) w' ∧ w.grownBy w' (some g) := by
  obtain ⟨c0, c1⟩ := cells_2 h.h
  have hR := hI.r.below h.b
  have hS := hI.s.below' h.b
  have hl := hI.r.1
  have hz : isSz k = true := by rcases hk with rfl | rfl <;> rfl
  have hkl : k ≤ 4 := by omega
  have hlt := numQ_lt bs a k
  have hnn := hI.big
  have H := Lib.hid h
  subst ha
  subst hki
  unfold numQ inQ at *
  by_cases hin : a + k ≤ bs.length
  · rw [if_pos hin] at hlt ⊢
    rw [decide_eq_true hin]
    have C := Lib.hid (get_ok A n c bs a k w hR hS (by omega) hz (by omega))
    have hx : leN (cut bs a k) < 4294967296 := Nat.lt_of_lt_of_le hlt (by rcases hk with rfl | rfl <;> decide)
    obtain ⟨x, hxx⟩ : ∃ x, leN (cut bs a k) = x := ⟨_, rfl⟩
    rw [hxx] at C hx ⊢
    clear hxx hlt hz h hR hS
    have N := Lib.hid (need_any true H.out)
    go_enter Tryz.func31, Tryz.ntmps31
    go_wp2_with fail
    (with_reducible refine C.out.mono ?_)
    rintro e w' ⟨rfl, rfl⟩
    go_wp2_with fail
    (with_reducible refine N.out.mono ?_)
    rintro e w' ⟨rfl, h1, h2⟩
    have HH := Lib.hid (And.intro h1 h2)
    clear h1 h2
    go_wp2_with fail
    go_ret
    exact ⟨rfl, HH.out⟩
  · rw [if_neg hin]
    rw [decide_eq_false hin]
    have C := Lib.hid (get_not A n c a k w hS (by omega) (by omega) (by omega) (.inr (by simp [inB]; omega)))
    clear hlt hz h hR hS
    have N := Lib.hid (need_any false H.out)
    go_enter Tryz.func31, Tryz.ntmps31
    go_wp2_with fail
    (with_reducible refine C.out.mono ?_)
    rintro e w' ⟨rfl, rfl⟩
    go_wp2_with fail
    (with_reducible refine N.out.mono ?_)
    rintro e w' ⟨rfl, h1, h2⟩
    have HH := Lib.hid (And.intro h1 h2)
    clear h1 h2
    go_wp2_with fail
    go_ret
    exact ⟨rfl, HH.out⟩
end
end Go.Proofs.YtcedojmhgmgcgaaGreatDoor
namespace Go.Proofs.YtcedojmhgmgcgaaGreatDoor
open Go.RowKit Go
set_option linter.unusedVariables false
set_option maxRecDepth 100000
section
variable {w0 : World} {g : Nat} {A : Option Addr} {n c : Nat} {bs : List UInt8} {R : Bool} {w : World}
theorem has_any (hI : Img w0 A n c bs) (ai : Int) (a : Nat) (s : ByteArray) (T : List UInt8) (hT : s.toList = T) (hs : s.size = T.length) (hT1 : 1 ≤ T.length) (hT2 : T.length ≤ 4) (ha : ai = (a : Int)) (ha2 : a ≤ 1099511627776) (h : RdS w0 g A n c R w) :
    Calls Tryz.prog 52 #[.pointer (some ⟨g, 0, none⟩), .int .i64 ai, .string s] w fun e w' => e = .returned (.tuple #[]) ∧ RdS w0 g A n c (R && (cut bs a T.length == T)) w' ∧ w.grownBy w' (some g) := by
  obtain ⟨c0, c1⟩ := cells_2 h.h
  have hR := hI.r.below h.b
  have hl := hI.r.1
  have hnn := hI.big
  have hnc := hI.nc
  have hcc := hI.cc
  have H := Lib.hid h
  subst ha
  by_cases hin : a + T.length ≤ n
  · have C := Lib.hid (cut_ok A n c bs a s.size w hR hnc hcc (by omega) (by omega))
    have hcl := cut_len bs a T.length (by omega)
    rw [hs] at C
    obtain ⟨l, hll⟩ : ∃ l, cut bs a T.length = l := ⟨_, rfl⟩
    obtain ⟨m, hm⟩ : ∃ m, T.length = m := ⟨_, rfl⟩
    rw [hm] at C hs hcl hll hin hT1 hT2 ⊢
    rw [hll] at C hcl ⊢
    clear h hR hnc hcc hl hnn hll
    go_enter Tryz.func52, Tryz.ntmps52
    go_wp2_with fail
    (with_reducible refine C.out.mono ?_)
    rintro e w' ⟨X, m2, c2, rfl, ho, hb⟩
    have hlen := ho.len
    have K := Lib.hid (H.out.keep hb)
    have G := Lib.hid (grown_of_below hb (Nat.le_refl _) (some g))
    have E1 := run_strOf w' _ X l c2 ho.reads
    have t1 := strOf_toList l
    rw [hlen] at E1
    clear ho hb hlen C
    have N := Lib.hid (need_any (l == T) K.out)
    go_wp2_with fail
    (with_reducible refine N.out.mono ?_)
    rintro e w2 ⟨rfl, h1, h2⟩
    have HH := Lib.hid (And.intro h1 h2)
    clear h1 h2
    go_wp2_with fail
    go_end0
    exact ⟨rfl, HH.out.1, grown_tr G.out HH.out.2⟩
  · have C := Lib.hid (cut_not A n c a s.size w (by omega) (by omega) (by omega) (by simp [inB]; omega))
    have hne : (cut bs a T.length == T) = false := by
      rw [beq_eq_false_iff_ne]
      intro e
      have := congrArg List.length e
      unfold cut at this
      rw [List.length_take, List.length_drop] at this
      omega
    rw [hne]
    have hne2 : (([] : List UInt8) == T) = false := by
      rw [beq_eq_false_iff_ne]
      intro e
      rw [← e] at hT1
      simp at hT1
    clear h hR hnc hcc hl hnn hne
    rw [hs] at C
    have E1 : (convert 22 9 (.slice none 0 0)).run Tryz.prog w = .ok (.string (strOf [])) w := run_strOf w w.heap.size none [] 0 Bs.nil
    have t1 := strOf_toList []
    have N := Lib.hid (need_any false H.out)
    obtain ⟨m, hm⟩ : ∃ m, T.length = m := ⟨_, rfl⟩
    rw [hm] at C hs hin hT1 hT2
    go_enter Tryz.func52, Tryz.ntmps52
    go_wp2_with fail
    (with_reducible refine C.out.mono ?_)
    rintro e w' ⟨rfl, rfl⟩
    go_wp2_with fail
    (with_reducible refine N.out.mono ?_)
    rintro e w2 ⟨rfl, h1, h2⟩
    have HH := Lib.hid (And.intro h1 h2)
    clear h1 h2
    go_wp2_with fail
    go_end0
    exact ⟨rfl, HH.out⟩
end
/-! ### What stands ahead of the sections' table, as plain data -/
def pAt (bs : List UInt8) : Nat := numQ bs 60 4
def cntQ (bs : List UInt8) : Nat := numQ bs (pAt bs + 6) 2
def lenQ (bs : List UInt8) : Nat := numQ bs (pAt bs + 20) 2
def optQ (bs : List UInt8) : Nat := pAt bs + 24
def magQ (bs : List UInt8) : Nat := numQ bs (optQ bs) 2
def dirsOf (o mg : Nat) : Nat := if mg = 523 then o + 112 else o + 96
def dirsQ (bs : List UInt8) : Nat := dirsOf (optQ bs) (magQ bs)
def entQ (bs : List UInt8) : Nat := numQ bs (dirsQ bs - 4) 4
def tabQ (bs : List UInt8) : Nat := optQ bs + lenQ bs
def hdrQ (bs : List UInt8) : Nat := numQ bs (optQ bs + 60) 4
/-- Is all of it as it should be? -/
def hdB (bs : List UInt8) : Bool :=
  (cut bs 0 2 == [77, 90]) && inQ bs 60 4 && decide (64 ≤ pAt bs) && (cut bs (pAt bs) 4 == [80, 69, 0, 0]) && inQ bs (pAt bs + 6) 2 && (decide (1 ≤ cntQ bs) && decide (cntQ bs ≤ 96)) && inQ bs (pAt bs + 20) 2
    && inQ bs (optQ bs) 2 && (decide (magQ bs = 267) || decide (magQ bs = 523)) && inQ bs (dirsQ bs - 4) 4 && (decide (5 ≤ entQ bs) && decide (lenQ bs = dirsQ bs - optQ bs + 8 * entQ bs)) && inQ bs (optQ bs + 60) 4 && (decide (tabQ bs + 40 * cntQ bs ≤ hdrQ bs) && decide (hdrQ bs ≤ bs.length))
/-- The reader goes on, the image's block is as it was. -/
structure HB (w0 w : World) (g q : Nat) (A : Option Addr) (n c : Nat) (o : Obj) (R : Bool) (W : World) : Prop where
  r : RdS w0 g A n c R W
  q : W.heap[q]? = some o
  gr : w.grownBy W (some g)
theorem HB.go {w0 w : World} {g q : Nat} {A : Option Addr} {n c : Nat} {o : Obj} {R b : Bool} {W W' : World} (h : HB w0 w g q A n c o R W) (hne : q ≠ g) (r : RdS w0 g A n c (R && b) W') (hg : W.grownBy W' (some g)) : ∃ R', Hid (R' = (R && b)) ∧ Hid (HB w0 w g q A n c o R' W') :=
  ⟨_, rfl, r, (hg.block q (block_lt h.q) (fun e => hne (Option.some.inj e))).trans h.q, grown_tr h.gr hg⟩
theorem HB.step {w0 w : World} {g q : Nat} {A : Option Addr} {n c : Nat} {o : Obj} {R R' : Bool} {W W' : World} (h : HB w0 w g q A n c o R W) (hne : q ≠ g) (r : RdS w0 g A n c R' W') (hg : W.grownBy W' (some g)) : HB w0 w g q A n c o R' W' :=
  ⟨r, (hg.block q (block_lt h.q) (fun e => hne (Option.some.inj e))).trans h.q, grown_tr h.gr hg⟩
def imgV (plus : Bool) (check dir hdr : Nat) : Array Value := #[.bool plus, .int .i64 (check : Nat), .int .i64 (dir : Nat), .int .u32 (hdr : Nat), .slice none 0 0, .int .u32 0, .int .u32 0, .slice none 0 0]
set_option maxHeartbeats 8000000 in
theorem headers_any {w0 : World} {g : Nat} {A : Option Addr} {n c : Nat} {bs : List UInt8} {R : Bool} {w : World} (hI : Img w0 A n c bs) (h : RdS w0 g A n c R w) :
    Calls Tryz.prog 29 #[.pointer (some ⟨g, 0, none⟩)] w fun e w' => e = .returned (.tuple #[.agg (imgV (decide (magQ bs = 523)) (optQ bs + 64) (dirsQ bs + 32) (hdrQ bs)), .int .i64 (tabQ bs : Nat), .int .i64 (cntQ bs : Nat)]) ∧ RdS w0 g A n c (R && hdB bs) w' ∧ w.grownBy w' (some g) := by
  have hgs := block_lt h.h
  have hnl := hI.r.1
  have hnb := hI.big
  unfold hdB tabQ hdrQ entQ dirsQ
  obtain ⟨p, hp⟩ : ∃ x, pAt bs = x := ⟨_, rfl⟩
  obtain ⟨ct, hct⟩ : ∃ x, cntQ bs = x := ⟨_, rfl⟩
  obtain ⟨ln, hln⟩ : ∃ x, lenQ bs = x := ⟨_, rfl⟩
  obtain ⟨mg, hmg⟩ : ∃ x, magQ bs = x := ⟨_, rfl⟩
  have hop : optQ bs = p + 24 := by unfold optQ; rw [hp]
  have p1 : p < 4294967296 := by rw [← hp]; exact numQ_lt4 _ _
  have p2 : ct < 65536 := by rw [← hct]; exact numQ_lt2 _ _
  have p3 : ln < 65536 := by rw [← hln]; exact numQ_lt2 _ _
  have p4 : mg < 65536 := by rw [← hmg]; exact numQ_lt2 _ _
  rw [hop, hct, hln, hmg, hp]
  obtain ⟨dr, hdr⟩ : ∃ x, dirsOf (p + 24) mg = x := ⟨_, rfl⟩
  have p5 : p + 120 ≤ dr ∧ dr ≤ p + 136 := by rw [← hdr]; unfold dirsOf; split <;> omega
  rw [hdr]
  obtain ⟨en, hen⟩ : ∃ x, numQ bs (dr - 4) 4 = x := ⟨_, rfl⟩
  obtain ⟨hd, hhd⟩ : ∃ x, numQ bs (p + 24 + 60) 4 = x := ⟨_, rfl⟩
  have p6 : en < 4294967296 := by rw [← hen]; exact numQ_lt4 _ _
  have p7 : hd < 4294967296 := by rw [← hhd]; exact numQ_lt4 _ _
  rw [hen, hhd, hnl]
  have e1 : numQ bs 60 4 = p := hp
  have e2 : numQ bs (p + 6) 2 = ct := by rw [← hct]; unfold cntQ; rw [hp]
  have e3 : numQ bs (p + 20) 2 = ln := by rw [← hln]; unfold lenQ; rw [hp]
  have e4 : numQ bs (p + 24) 2 = mg := by rw [← hmg]; unfold magQ; rw [hop]
  have EE := Lib.hid (And.intro e1 (And.intro e2 (And.intro e3 (And.intro e4 (And.intro hen (And.intro hhd hdr))))))
  clear hp hct hln hmg hop e1 e2 e3 e4 hen hhd hdr
  obtain ⟨q, hq⟩ : ∃ q, w.heap.size = q := ⟨_, rfl⟩
  have hqg : q ≠ g := by omega
  have HZ := Lib.hid (Nat.le_trans h.b.size (Nat.le_of_eq hq))
  have H0 : Hid (∀ o : Obj, HB w0 w g q A n c o R (w.alloc o)) := fun o => ⟨h.alloc o, has_new' _ _ _ hq.symm, grown_of_below ((Below.refl _ _).alloc (Nat.le_refl _) o) (Nat.le_refl _) _⟩
  clear hgs h
  go_enter Tryz.func29, Tryz.ntmps29
  go_wp2_with fail
  refine calls_nm fun W0 hW0 => ?_
  have B0 : Hid (HB w0 w g q A n c (.cells (imgV false 0 0 0) 30) R W0) := by rw [← hW0]; exact H0.out _
  clear hW0 H0
  refine (has_any hI 0 0 ⟨#[77, 90]⟩ [77, 90] (by rw [Lib.toList_data]) rfl (by decide) (by decide) (by first | rfl | (push_cast; rfl)) (by omega) B0.out.r).mono ?_
  rintro e W1 ⟨rfl, h1, h2⟩
  obtain ⟨r1, E1, B1⟩ := B0.out.go hqg h1 h2
  clear h1 h2 B0
  go_wp2_with fail
  have C := Lib.hid (number_any hI 60 60 4 (by omega) (by omega) (by decide) 4 rfl B1.out.r)
  rw [EE.out.1] at C
  (with_reducible refine C.out.mono ?_)
  clear C
  rintro e W2 ⟨rfl, h1, h2⟩
  obtain ⟨r2, E2, B2⟩ := B1.out.go hqg h1 h2
  clear h1 h2 B1
  go_wp2_with fail
  (with_reducible refine (need_any _ B2.out.r).mono ?_)
  rintro e W3 ⟨rfl, h1, h2⟩
  obtain ⟨r3, E3, B3⟩ := B2.out.go hqg h1 h2
  clear h1 h2 B2
  go_wp2_with fail
  refine (has_any hI p p ⟨#[80, 69, 0, 0]⟩ [80, 69, 0, 0] (by rw [Lib.toList_data]) rfl (by decide) (by decide) (by first | rfl | (push_cast; rfl)) (by omega) B3.out.r).mono ?_
  rintro e W4 ⟨rfl, h1, h2⟩
  obtain ⟨r4, E4, B4⟩ := B3.out.go hqg h1 h2
  clear h1 h2 B3
  go_wp2_with fail
  have C := Lib.hid (number_any hI ((p : Int) + 6) (p + 6) 2 (by omega) (by omega) (by decide) 2 rfl B4.out.r)
  rw [EE.out.2.1] at C
  (with_reducible refine C.out.mono ?_)
  clear C
  rintro e W5 ⟨rfl, h1, h2⟩
  obtain ⟨r5, E5, B5⟩ := B4.out.go hqg h1 h2
  clear h1 h2 B4
  go_upto_region 6 with (fail)
  go_cut [33] (fun s wx => s = .bool (decide (1 ≤ ct) && decide (ct ≤ 96)) ∧ (RdS w0 g A n c (r5 && (decide (1 ≤ ct) && decide (ct ≤ 96))) wx ∧ W5.grownBy wx (some g)))
  case first => as_aux_lemma =>
    by_cases a1 : 1 ≤ ct
    · have t1 : decide ((1 : Int) ≤ (ct : Int)) = true := by simp; omega
      have BB : (decide (1 ≤ ct) && decide (ct ≤ 96)) = decide ((ct : Int) ≤ 96) := by rw [decide_eq_true a1, Bool.true_and]; congr 1; exact propext (by omega)
      obtain ⟨b, hb⟩ : ∃ b, decide ((ct : Int) ≤ 96) = b := ⟨_, rfl⟩
      rw [hb] at BB
      clear a1
      go_wp2_with fail
      (with_reducible refine (need_any _ B5.out.r).mono ?_)
      rintro e W9 ⟨rfl, h1, h2⟩
      go_wp2_with fail
      go_meet
      exact ⟨by simp [BB], by simpa [BB] using h1, h2⟩
    · have t1 : decide ((1 : Int) ≤ (ct : Int)) = false := by simp; omega
      have BB : (decide (1 ≤ ct) && decide (ct ≤ 96)) = false := by rw [decide_eq_false a1, Bool.false_and]
      clear a1
      go_wp2_with fail
      (with_reducible refine (need_any _ B5.out.r).mono ?_)
      rintro e W9 ⟨rfl, h1, h2⟩
      go_wp2_with fail
      go_meet
      exact ⟨by simp [BB], by simpa [BB] using h1, h2⟩
  case rest =>
  obtain ⟨hs, h1, h2⟩ := hcut
  subst hs
  generalize wc = W6 at *
  obtain ⟨r6, E6, B6⟩ := B5.out.go hqg h1 h2
  clear h1 h2 B5
  go_wp2_with fail
  have C := Lib.hid (number_any hI ((p : Int) + 20) (p + 20) 2 (by omega) (by omega) (by decide) 2 rfl B6.out.r)
  rw [EE.out.2.2.1] at C
  (with_reducible refine C.out.mono ?_)
  clear C
  rintro e W7 ⟨rfl, h1, h2⟩
  obtain ⟨r7, E7, B7⟩ := B6.out.go hqg h1 h2
  clear h1 h2 B6
  go_wp2_with fail
  have C := Lib.hid (number_any hI ((p : Int) + 24) (p + 24) 2 (by omega) (by omega) (by decide) 2 rfl B7.out.r)
  rw [EE.out.2.2.2.1] at C
  (with_reducible refine C.out.mono ?_)
  clear C
  rintro e W8 ⟨rfl, h1, h2⟩
  obtain ⟨r8, E8, B8⟩ := B7.out.go hqg h1 h2
  clear h1 h2 B7
  go_upto_region 10 with (fail)
  go_cut [50] (fun s wx => s = .bool (decide (mg = 267) || decide (mg = 523)) ∧ (RdS w0 g A n c (r8 && (decide (mg = 267) || decide (mg = 523))) wx ∧ W8.grownBy wx (some g)))
  case first => as_aux_lemma =>
    by_cases a1 : mg = 267
    · have t1 : ((mg : Int) == 267) = true := by simp; omega
      have BB : (decide (mg = 267) || decide (mg = 523)) = true := by rw [decide_eq_true a1, Bool.true_or]
      clear a1
      go_wp2_with fail
      (with_reducible refine (need_any _ B8.out.r).mono ?_)
      rintro e W9 ⟨rfl, h1, h2⟩
      go_wp2_with fail
      go_meet
      exact ⟨by simp [BB], by simpa [BB] using h1, h2⟩
    · have t1 : ((mg : Int) == 267) = false := by simp; omega
      have BB : (decide (mg = 267) || decide (mg = 523)) = ((mg : Int) == 523) := by rw [decide_eq_false a1, Bool.false_or]; by_cases h : mg = 523 <;> simp [h] <;> omega
      obtain ⟨b, hb⟩ : ∃ b, ((mg : Int) == 523) = b := ⟨_, rfl⟩
      rw [hb] at BB
      clear a1
      go_wp2_with fail
      (with_reducible refine (need_any _ B8.out.r).mono ?_)
      rintro e W9 ⟨rfl, h1, h2⟩
      go_wp2_with fail
      go_meet
      exact ⟨by simp [BB], by simpa [BB] using h1, h2⟩
  case rest =>
  obtain ⟨hs, h1, h2⟩ := hcut
  subst hs
  generalize wc = W9 at *
  obtain ⟨r9, E9, B9⟩ := B8.out.go hqg h1 h2
  clear h1 h2 B8
  go_upto_if 55 with (fail)
  go_cut [9] (fun s wx => s = .int .i64 (dr : Int) ∧ wx = W9)
  case first => as_aux_lemma =>
    have hdr := EE.out.2.2.2.2.2.2
    unfold dirsOf at hdr
    by_cases a1 : mg = 523
    · have t1 : ((mg : Int) == 523) = true := by simp; omega
      rw [if_pos a1] at hdr
      clear a1
      go_wp2_with fail
      go_meet
      exact ⟨by congr 1; omega, rfl⟩
    · have t1 : ((mg : Int) == 523) = false := by simp; omega
      rw [if_neg a1] at hdr
      clear a1
      go_wp2_with fail
      go_meet
      exact ⟨by congr 1; omega, rfl⟩
  case rest =>
  obtain ⟨hs, hwc⟩ := hcut
  subst hs
  subst hwc
  go_wp2_with fail
  have C := Lib.hid (number_any hI ((dr : Int) - 4) (dr - 4) 4 (by omega) (by omega) (by decide) 4 rfl B9.out.r)
  rw [EE.out.2.2.2.2.1] at C
  (with_reducible refine C.out.mono ?_)
  clear C
  rintro e W10 ⟨rfl, h1, h2⟩
  obtain ⟨r10, E10, B10⟩ := B9.out.go hqg h1 h2
  clear h1 h2 B9
  go_upto_region 15 with (fail)
  go_cut [74] (fun s wx => s = .bool (decide (5 ≤ en) && decide (ln = dr - (p + 24) + 8 * en)) ∧ (RdS w0 g A n c (r10 && (decide (5 ≤ en) && decide (ln = dr - (p + 24) + 8 * en))) wx ∧ W10.grownBy wx (some g)))
  case first => as_aux_lemma =>
    by_cases a1 : 5 ≤ en
    · have t1 : decide ((5 : Int) ≤ (en : Int)) = true := by simp; omega
      have BB : (decide (5 ≤ en) && decide (ln = dr - (p + 24) + 8 * en)) = ((ln : Int) == (dr : Int) - ((p : Int) + 24) + 8 * (en : Int)) := by rw [decide_eq_true a1, Bool.true_and]; by_cases h : ln = dr - (p + 24) + 8 * en <;> simp [h] <;> omega
      clear a1
      go_wp2_with fail
      (with_reducible refine (need_any _ B10.out.r).mono ?_)
      rintro e W9 ⟨rfl, h1, h2⟩
      go_wp2_with fail
      go_meet
      exact ⟨by simp [BB], by simpa [BB] using h1, h2⟩
    · have t1 : decide ((5 : Int) ≤ (en : Int)) = false := by simp; omega
      have BB : (decide (5 ≤ en) && decide (ln = dr - (p + 24) + 8 * en)) = false := by rw [decide_eq_false a1, Bool.false_and]
      clear a1
      go_wp2_with fail
      (with_reducible refine (need_any _ B10.out.r).mono ?_)
      rintro e W9 ⟨rfl, h1, h2⟩
      go_wp2_with fail
      go_meet
      exact ⟨by simp [BB], by simpa [BB] using h1, h2⟩
  case rest =>
  obtain ⟨hs, h1, h2⟩ := hcut
  subst hs
  generalize wc = W11 at *
  obtain ⟨r11, E11, B11⟩ := B10.out.go hqg h1 h2
  clear h1 h2 B10
  go_wp2_with fail
  have C := Lib.hid (number_any hI ((p : Int) + 24 + 60) (p + 24 + 60) 4 (by omega) (by omega) (by decide) 4 rfl B11.out.r)
  rw [EE.out.2.2.2.2.2.1] at C
  (with_reducible refine C.out.mono ?_)
  clear C
  rintro e W12 ⟨rfl, h1, h2⟩
  obtain ⟨r12, E12, B12⟩ := B11.out.go hqg h1 h2
  clear h1 h2 B11
  obtain ⟨c0, c1⟩ := cells_2 B12.out.r.h
  go_upto_region 18 with (fail)
  go_cut [98] (fun s wx => s = .bool (decide (p + 24 + ln + 40 * ct ≤ hd) && decide (hd ≤ n)) ∧ (RdS w0 g A n c (r12 && (decide (p + 24 + ln + 40 * ct ≤ hd) && decide (hd ≤ n))) wx ∧ W12.grownBy wx (some g)))
  case first => as_aux_lemma =>
    by_cases a1 : p + 24 + ln + 40 * ct ≤ hd
    · have t1 : decide ((p : Int) + 24 + (ln : Int) + 40 * (ct : Int) ≤ (hd : Int)) = true := by simp; omega
      have BB : (decide (p + 24 + ln + 40 * ct ≤ hd) && decide (hd ≤ n)) = decide ((hd : Int) ≤ (n : Int)) := by rw [decide_eq_true a1, Bool.true_and]; congr 1; exact propext (by omega)
      obtain ⟨b, hb⟩ : ∃ b, decide ((hd : Int) ≤ (n : Int)) = b := ⟨_, rfl⟩
      rw [hb] at BB
      have hb2 : decide (hd ≤ n) = b := by rw [← hb]; congr 1; exact propext (by omega)
      clear a1
      go_wp2_with fail
      (with_reducible refine (need_any _ B12.out.r).mono ?_)
      rintro e W9 ⟨rfl, h1, h2⟩
      go_wp2_with fail
      go_meet
      exact ⟨by rw [BB, ← hb2], by rw [BB]; exact h1, h2⟩
    · have t1 : decide ((p : Int) + 24 + (ln : Int) + 40 * (ct : Int) ≤ (hd : Int)) = false := by simp; omega
      have BB : (decide (p + 24 + ln + 40 * ct ≤ hd) && decide (hd ≤ n)) = false := by rw [decide_eq_false a1, Bool.false_and]
      clear a1
      go_wp2_with fail
      (with_reducible refine (need_any _ B12.out.r).mono ?_)
      rintro e W9 ⟨rfl, h1, h2⟩
      go_wp2_with fail
      go_meet
      exact ⟨by simp [BB], by simpa [BB] using h1, h2⟩
  case rest =>
  obtain ⟨hs, h1, h2⟩ := hcut
  subst hs
  generalize wc = W13 at *
  obtain ⟨r13, E13, B13⟩ := B12.out.go hqg h1 h2
  clear h1 h2 B12
  clear c0 c1
  obtain ⟨f0, f1, f2, f3, f4, f5, f6, f7⟩ := free_8 B13.out.q
  obtain ⟨x0, x1, x2, x3, x4, x5, x6, x7⟩ := cells_8 B13.out.q
  have e3 : IntKind.u32.wrap (hd : Int) = (hd : Int) := IntWalk.u32_in _ (by omega)
  obtain ⟨pl, hpl⟩ : ∃ b, ((mg : Int) == 523) = b := ⟨_, rfl⟩
  go_upto_region 20 with (fail)
  refine wp_nm fun W20 hW20 => ?_
  have k20 : W20.heap[q]? = some (.cells (imgV pl (p + 24 + 64) (dr + 32) hd) 30) := by rw [← hW20]; exact set_8 B13.out.q
  have h20 : RdS w0 g A n c r13 W20 ∧ w.grownBy W20 (some g) := by rw [← hW20]; exact ⟨B13.out.r.far (grown_8 _ _) (by have := B13.out.r.b.size; have := HZ.out; omega) (fun e => hqg e.symm), gr_far B13.out.gr (grown_8 _ _) (by omega)⟩
  have H20 := Lib.hid h20
  clear hW20 h20 f0 f1 f2 f3 f4 f5 f6 f7 x0 x1 x2 x3 x4 x5 x6 x7
  unfold imgV at k20
  obtain ⟨f0, f1, f2, f3, f4, f5, f6, f7⟩ := free_8 k20
  obtain ⟨x0, x1, x2, x3, x4, x5, x6, x7⟩ := cells_8 k20
  have K20 := Lib.hid k20
  clear k20
  go_wp2
  refine bodyPost_ret (results_ctt Tryz.results29 _ (LV.agg (set_8 K20.out) Tryz.underlying30 rfl (by kernel_rfl))) rfl ?_
  have hpl2 : decide (mg = 523) = pl := by rw [← hpl]; by_cases h : mg = 523 <;> simp [h]; omega
  have hR : r13 = (R && ((cut bs 0 2 == [77, 90]) && inQ bs 60 4 && decide (64 ≤ p) && (cut bs p 4 == [80, 69, 0, 0]) && inQ bs (p + 6) 2 && (decide (1 ≤ ct) && decide (ct ≤ 96)) && inQ bs (p + 20) 2
      && inQ bs (p + 24) 2 && (decide (mg = 267) || decide (mg = 523)) && inQ bs (dr - 4) 4 && (decide (5 ≤ en) && decide (ln = dr - (p + 24) + 8 * en)) && inQ bs (p + 24 + 60) 4 && (decide (p + 24 + ln + 40 * ct ≤ hd) && decide (hd ≤ n)))) := by
    clear H20 K20 HZ EE hI f0 f1 f2 f3 f4 f5 f6 f7 x0 x1 x2 x3 x4 x5 x6 x7
    rw [E13.out, E12.out, E11.out, E10.out, E9.out, E8.out, E7.out, E6.out, E5.out, E4.out, E3.out, E2.out, E1.out]
    have hp64 : decide ((64 : Int) ≤ (p : Int)) = decide (64 ≤ p) := by congr 1; exact propext (by omega)
    simp only [List.length_cons, List.length_nil, Nat.reduceAdd, Bool.and_assoc, hp64]
  rw [← hR, hpl2]
  refine ⟨rfl, ?_, gr_far H20.out.2 (grown_8 _ _) (by omega)⟩
  exact H20.out.1.far (grown_8 _ _) (by have := HZ.out; omega) (fun e => hqg e.symm)
end Go.Proofs.YtcedojmhgmgcgaaGreatDoor
namespace Go.Proofs.YtcedojmhgmgcgaaGreatDoor
open Go.RowKit Go
set_option linter.unusedVariables false
set_option maxRecDepth 100000
attribute [local go_sem] Oper.semAt_some
theorem putObj_grown (W : World) (b : Nat) (o : Obj) : W.grownBy (W.putObj b o) (some b) := grownBy_putObj' W b o
/-- A section: where it lies, and how long it is. -/
def secCells (s : Nat × Nat) : List Value := [.int .u32 (s.1 : Nat), .int .u32 (s.2 : Nat)]
def secEnc (s : Nat × Nat) : Array Value := #[.agg #[.int .u32 (s.1 : Nat), .int .u32 (s.2 : Nat)]]
theorem sec_row : RowT 27 60 2 8 (.agg #[.int .u32 0, .int .u32 0]) := ⟨Tryz.underlying27, by kernel_rfl, rfl, by decide⟩
theorem sec_at : ∀ (L : List (Nat × Nat)) (j : Nat) (x : Nat × Nat), L[j]? = some x → (L.flatMap secCells)[j * 2]? = some (.int .u32 (x.1 : Nat)) ∧ (L.flatMap secCells)[j * 2 + 1]? = some (.int .u32 (x.2 : Nat))
  | [], j, x, h => by simp at h
  | y :: r, 0, x, h => by
    simp at h
    subst h
    exact ⟨rfl, rfl⟩
  | y :: r, j + 1, x, h => by
    have ih := sec_at r j x (by simpa using h)
    have e : ((y :: r).flatMap secCells) = secCells y ++ r.flatMap secCells := rfl
    rw [e, List.getElem?_append_right (by simp [secCells]; omega), List.getElem?_append_right (by simp [secCells]; omega)]
    simp only [secCells, List.length_cons, List.length_nil, Nat.zero_add, Nat.reduceAdd]
    rw [show (j + 1) * 2 - 2 = j * 2 by omega, show (j + 1) * 2 + 1 - 2 = j * 2 + 1 by omega]
    exact ih
theorem sec_len : ∀ L : List (Nat × Nat), (L.flatMap secCells).length = L.length * 2
  | [] => rfl
  | y :: r => by
    have e : ((y :: r).flatMap secCells) = secCells y ++ r.flatMap secCells := rfl
    rw [e, List.length_append, sec_len r, List.length_cons]
    simp only [secCells, List.length_cons, List.length_nil]
    omega
/-- How two numbers compare. -/
def cmpN (x y : Nat) : Int := if x < y then -1 else if y < x then 1 else 0
theorem cmpC_any (x y : Nat) (w : World) : Calls Tryz.prog 39 #[.int .u32 (x : Int), .int .u32 (y : Int)] w fun e w' => e = .returned (.int .i64 (cmpN x y)) ∧ w' = w := by
  unfold cmpN
  by_cases h1 : x < y
  · rw [if_pos h1]
    go_enter Tryz.func39, Tryz.ntmps39
    go_wp2
    go_ret
    exact ⟨rfl, rfl⟩
  · rw [if_neg h1]
    by_cases h2 : y < x
    · rw [if_pos h2]
      go_enter Tryz.func39, Tryz.ntmps39
      go_wp2
      go_ret
      exact ⟨rfl, rfl⟩
    · rw [if_neg h2]
      go_enter Tryz.func39, Tryz.ntmps39
      go_wp2
      go_ret
      exact ⟨rfl, rfl⟩
theorem values_any (A : Option Addr) (n c : Nat) (w : World) :
    Calls Tryz.prog 37 #[.slice A n c] w fun e w' => e = .returned (.func (.func 64) #[] #[.pointer (some ⟨w.heap.size, 0, none⟩)]) ∧ w' = w.alloc (.cells #[.slice A n c] 27) := by
  go_enter Tryz.func37, Tryz.ntmps37
  go_wp2
  go_ret
  exact ⟨rfl, rfl⟩
set_option maxHeartbeats 1000000 in
theorem values1_in (n c D bx : Nat) (A : Option Addr) (L : List (Nat × Nat)) (w0 : World) (hR : ReadR w0 A (L.flatMap secCells)) (hl : L.length = n) (hn : n ≤ 100000) (hbx : w0.heap[bx]? = some (.cells #[.slice A n c] 27))
    (I : List (Nat × Nat) → World → Prop) (hIb : ∀ pre W, I pre W → Below w0.heap.size w0 W) (hIa : ∀ pre W o, I pre W → I pre (W.alloc o)) (hId : ∀ pre W k, I pre W → I pre (W.drewN k)) (hI0 : ∀ pre W, I pre W → I pre W.drew) (hD : w0.heap.size ≤ D) :
    IterOf Tryz.prog 4 D 64 #[.pointer (some ⟨bx, 0, none⟩)] secEnc (fun _ => False) I (fun xs => xs = L) (fun _ => True) (n + 1) := by
  intro Y Z hYI hYs hY hYb W1 hY0
  have HB1 := Lib.hid (hIb _ _ (hYI _ _ hY0))
  have hcell := cells_1 (has_below hbx HB1.out)
  refine callsIn_of_wp Tryz.func64 rfl trivial ?_ rfl
  simp only [Tryz.ntmps64, List.size_toArray, List.length_cons, List.length_nil, Nat.reduceAdd, Nat.reduceSub, Array.replicate_succ, Array.replicate_zero, List.push_toArray, List.append_toArray, List.nil_append, List.cons_append]
  gi_wp2
  gi_loopw [4, 7] (fun _ u wr => ∃ i : Nat, u = .int .i64 (i : Int) ∧ i ≤ n ∧ Y (L.take i) wr) (fun _ u _ => n - (intOf u).toNat)
  case atStart => exact ⟨0, rfl, Nat.zero_le _, hY0⟩
  case round =>
    obtain ⟨i, rfl, hi, hJ⟩ := hrel
    by_cases hlt : i < n
    · obtain ⟨x, hx⟩ : ∃ x, L[i]? = some x := ⟨_, List.getElem?_eq_getElem (by omega)⟩
      obtain ⟨s0, s1⟩ := sec_at L i x hx
      have hRW := hR.below (hIb _ _ (hYI _ _ hJ)) (Nat.le_refl _)
      obtain ⟨b, off, rfl, hb, k0⟩ := hRW.at_ s0
      obtain ⟨b', off', e, hb', k1⟩ := hRW.at_ s1
      cases e
      have k1' : wr.cell? ⟨b, off + i * 2 + 1, none⟩ = some (.int .u32 (x.2 : Nat)) := k1
      have hlen : (L.take i).length < n + 1 := by rw [List.length_take]; omega
      have hJa := fun o => hYs _ wr (wr.alloc o) hJ (hIa _ _ o (hYI _ _ hJ)) (heap_alloc_old _ _ (by obtain ⟨⟨o, h⟩, _⟩ := hYb _ _ hJ; exact block_lt h)) (heap_alloc_old _ _ (by obtain ⟨_, ⟨o, h⟩⟩ := hYb _ _ hJ; exact block_lt h))
      have HY := Lib.hid (fun o => hY (L.take i) x (wr.alloc o) (hJa o) hlen)
      have hnx : L.take i ++ [x] = L.take (i + 1) := by rw [List.take_add_one, hx]; rfl
      have i1 : decide ((i : Int) < (n : Int)) = true := by simp; omega
      have e3 : IntKind.i64.wrap ((i : Int) + 1) = (i : Int) + 1 := IntWalk.i64_in _ (by omega)
      obtain ⟨fn, tmps, assign, body, hy, hY9⟩ := HY.out (.cells #[.int .u32 (x.1 : Nat), .int .u32 (x.2 : Nat)] 60)
      dsimp only [secEnc] at hy
      have HX := Lib.hid hx
      clear k1 hRW s0 s1 hb' hJa hlen hcell HY hx
      gi_wp2
      refine hY9.mono ?_
      rintro e W3 (⟨rfl, hJ3, hk3⟩ | ⟨rfl, hJx3⟩)
      · rw [hnx] at hJ3
        gi_wp2
        go_roundw
        case rel => exact ⟨i + 1, by go_num, by omega, hJ3⟩
        case measure => simp [intOf]; omega
      · gi_wp2
        refine bodyPost_ret (results_none rfl _ _ _) rfl ?_
        exact ⟨⟨_, rfl⟩, .inr ⟨_, trivial, hJx3⟩⟩
    · have i1 : decide ((i : Int) < (n : Int)) = false := by simp; omega
      obtain rfl : i = n := by omega
      gi_wp2
      go_end0
      exact ⟨⟨_, rfl⟩, .inl ⟨_, rfl, by rw [← hl, List.take_length] at hJ; exact hJ⟩⟩
end Go.Proofs.YtcedojmhgmgcgaaGreatDoor

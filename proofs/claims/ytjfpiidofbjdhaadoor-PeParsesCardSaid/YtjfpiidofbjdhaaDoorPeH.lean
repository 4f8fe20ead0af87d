/-
  pe: the signatures of a certificate table.
-/
import Derived.Test.YtjfpiidofbjdhaaDoorPeG
namespace Go.Proofs.YtjfpiidofbjdhaaDoor
open Go.RowKit Go
set_option linter.unusedVariables false
set_option maxRecDepth 100000
attribute [local go_sem] Oper.semAt_some
theorem bss_rowP : RowT 26 22 1 24 (.slice none 0 0) := ⟨Tryd.underlying26, by kernel_rfl, rfl, by decide⟩
/-- Signatures that are told: each in memory of its own. -/
structure SigsOwn (base : Nat) (xs : List Own1) (W : World) : Prop where
  own : ∀ x ∈ xs, OwnB W base x.1 x.2.1 x.2.2.1 x.2.2.2 ∧ x.2.1 ≤ 16777216
  far : xs.Pairwise fun x y => blk x.1 = none ∨ blk x.1 ≠ blk y.1
theorem SigsOwn.keep {base : Nat} {xs : List Own1} {W W' : World} (h : SigsOwn base xs W) {row : Option Nat} (hg : W.grownBy W' row) (hr : ∀ b, row = some b → b < base) : SigsOwn base xs W' :=
  ⟨fun x hx => ⟨(h.own x hx).1.kept hg (by
    cases hk : blk x.1 with
    | none => exact .inl rfl
    | some k => exact .inr (fun e => by have := ((h.own x hx).1.blk_lt hk).1; have := hr k e.symm; omega)), (h.own x hx).2⟩, h.far⟩
theorem SigsOwn.below {base : Nat} {xs : List Own1} {W W' : World} (h : SigsOwn base xs W) (hb : Below W.heap.size W W') : SigsOwn base xs W' :=
  ⟨fun x hx => ⟨(h.own x hx).1.below hb (Nat.le_refl _), (h.own x hx).2⟩, h.far⟩
theorem SigsOwn.lower {base base' : Nat} {xs : List Own1} {W : World} (h : SigsOwn base xs W) (hb : base' ≤ base) : SigsOwn base' xs W :=
  ⟨fun x hx => ⟨(h.own x hx).1.lower hb, (h.own x hx).2⟩, h.far⟩
/-- A row of byte slices turns; those bytes stay. -/
theorem SigsOwn.row {base b2 : Nat} {xs : List Own1} {W W' : World} (h : SigsOwn base xs W) {V : Option Addr} {m cV : Nat} {vs : List Value} (ho : OwnR W b2 22 1 V m cV vs) (hg : W.grownBy W' (blk V)) : SigsOwn base xs W' :=
  ⟨fun x hx => ⟨(h.own x hx).1.kept hg (OwnR.ne (h.own x hx).1.row ho (by decide)), (h.own x hx).2⟩, h.far⟩
/-- The loop that collects the signatures. -/
structure LG (w : World) (g : Nat) (pre : List Own1) (W : World) : Prop where
  ex : ∃ (V : Option Addr) (m cV : Nat), W.heap[w.heap.size]? = some (.cells #[.slice V m cV] 26) ∧ m = pre.length ∧ OwnR W (w.heap.size + 5) 22 1 V m cV (pre.map Own1.val)
  so : SigsOwn (w.heap.size + 5) pre W
  gr : w.grownBy W (some g)
theorem LG.grown {w : World} {g : Nat} {pre : List Own1} {W W' : World} {b : Nat} (h : LG w g pre W) (hgw : g < w.heap.size) (hg : W.grownBy W' (some b)) (hb : b = g ∨ w.heap.size + 1 ≤ b) (h6 : b < w.heap.size + 5) : LG w g pre W' := by
  obtain ⟨⟨V, m, cV, h2, hm, ho⟩, hso, hgr⟩ := h
  refine ⟨⟨V, m, cV, (hg.block _ (block_lt h2) (fun e => by injection e with e; omega)).trans h2, hm, ho.kept hg (.inr (fun e => by have := (ho.blk_lt e).1; omega))⟩, hso.keep hg (fun k hk => by injection hk with hk; omega), ?_⟩
  rcases hb with rfl | hb
  · exact grown_tr hgr hg
  · exact gr_far hgr hg (by omega)
theorem LG.new {w : World} {g : Nat} {pre : List Own1} {W W' : World} (h : LG w g pre W) (hb : Below W.heap.size W W') : LG w g pre W' := by
  obtain ⟨⟨V, m, cV, h2, hm, ho⟩, hso, hgr⟩ := h
  exact ⟨⟨V, m, cV, has_below h2 hb, hm, ho.below hb (Nat.le_refl _)⟩, hso.below hb, gr_new hgr (hb.mono hgr.size)⟩
theorem LG.alloc {w : World} {g : Nat} {pre : List Own1} {W : World} (h : LG w g pre W) (o : Obj) : LG w g pre (W.alloc o) := h.new ((Below.refl _ _).alloc (Nat.le_refl _) o)
/-- May a certificate table lie so? -/
def sgB (n table length end_ : Nat) : Bool := decide (0 < length) && decide (table % 8 = 0) && decide (end_ ≤ table) && decide (table + length = n)
def SigPost (w0 w : World) (g : Nat) (A : Option Addr) (n c : Nat) (R : Bool) (bs : List UInt8) (table length end_ : Nat) (e : Ending) (w' : World) : Prop :=
  ∃ (V : Option Addr) (m cV : Nat) (xs : List Own1) (R' : Bool), e = .returned (.slice V m cV) ∧ R' = (R && sgB n table length end_ && (rowsQ bs table).isSome) ∧ (R' = true → rowsQ bs table = some (xs.map fun x => x.2.2.2)) ∧ RdS w0 g A n c R' w' ∧ w.grownBy w' (some g) ∧
    m = xs.length ∧ OwnR w' w.heap.size 22 1 V m cV (xs.map Own1.val) ∧ SigsOwn w.heap.size xs w'
theorem sigPost_no {w0 w w' : World} {g : Nat} {A : Option Addr} {n c : Nat} {R : Bool} {bs : List UInt8} {table length end_ : Nat} (h : (R && sgB n table length end_) = false) (r : RdS w0 g A n c false w') (hg : w.grownBy w' (some g)) : SigPost w0 w g A n c R bs table length end_ (.returned (.slice none 0 0)) w' :=
  ⟨none, 0, 0, [], false, rfl, by rw [h]; rfl, (fun e => by cases e), r, hg, rfl, OwnR.nil _ _ _ _, ⟨(fun x hx => by cases hx), List.Pairwise.nil⟩⟩
set_option maxHeartbeats 4000000 in
theorem sigs_no {w0 : World} {g : Nat} {A : Option Addr} {n c : Nat} {bs : List UInt8} {R : Bool} {w : World} (hI : Img w0 A n c bs) (h : RdS w0 g A n c R w) (table length end_ : Nat) (ht : table < 4294967296) (hl : length < 4294967296) (he : end_ ≤ 17179869184) (hno : (R && sgB n table length end_) = false) :
    Calls Tryd.prog 29 #[.pointer (some ⟨g, 0, none⟩), .int .i64 (table : Nat), .int .i64 (length : Nat), .int .i64 (end_ : Nat)] w (SigPost w0 w g A n c R bs table length end_) := by
  have H := Lib.hid h
  have hn := hI.big
  have hz : ∀ b, b = sgB n table length end_ → (R && b) = false := fun b hb => by rw [hb]; exact hno
  have FIN : Hid (∀ W', RdS w0 g A n c false W' → w.grownBy W' (some g) → SigPost w0 w g A n c R bs table length end_ (.returned (.slice none 0 0)) W') := fun W' r hg => sigPost_no hno r hg
  have c0 := (cells_2 h.h).1
  obtain ⟨tm, htm⟩ : ∃ x, table % 8 = x := ⟨_, rfl⟩
  have e1 : (table : Int).tmod 8 = (tm : Int) := by rw [← htm]; exact Int.tmod_eq_emod_of_nonneg (by omega)
  have e2 : (table : Int) % 8 = (tm : Int) := by omega
  clear h
  unfold sgB at hno hz
  rw [htm] at hno hz
  clear htm
  by_cases a1 : 0 < length
  · have t1 : decide ((0 : Int) < (length : Int)) = true := by simp; omega
    by_cases a2 : tm = 0
    · have t2 : ((tm : Int) == 0) = true := by simp; omega
      by_cases a3 : end_ ≤ table
      · have t3 : decide ((end_ : Int) ≤ (table : Int)) = true := by simp; omega
        by_cases a4 : table + length = n
        · have t4 : ((table : Int) + (length : Int) == (n : Int)) = true := by simp; omega
          have hR : R = false := by simpa [a1, a2, a3, a4] using hno
          subst hR
          clear hno hz
          refine (callsIn_wide (n := 4)).1 ?_
          refine callsIn_of_wp_marks Tryd.func29 rfl trivial ?_ rfl
          simp only [Tryd.ntmps29, List.size_toArray, List.length_cons, List.length_nil, Nat.reduceAdd, Nat.reduceSub, Array.replicate_succ, Array.replicate_zero, List.push_toArray, List.append_toArray, List.nil_append, List.cons_append]
          refine wpIn_wide.2 ?_
          go_wp2_with (fail)
          (with_reducible refine (need_any _ H.out).mono ?_)
          rintro e w1 ⟨rfl, h1, h2⟩
          rw [Bool.false_and] at h1
          have HH := Lib.hid (FIN.out w1 h1 h2)
          obtain ⟨c0, c1⟩ := cells_2 h1.h
          clear h1 h2
          go_wp2_with (fail)
          refine ⟨_, results_tmp rfl _ _ _, ?_⟩
          exact HH.out
        · have t4 : ((table : Int) + (length : Int) == (n : Int)) = false := by simp; omega
          clear hno hz
          refine (callsIn_wide (n := 4)).1 ?_
          refine callsIn_of_wp_marks Tryd.func29 rfl trivial ?_ rfl
          simp only [Tryd.ntmps29, List.size_toArray, List.length_cons, List.length_nil, Nat.reduceAdd, Nat.reduceSub, Array.replicate_succ, Array.replicate_zero, List.push_toArray, List.append_toArray, List.nil_append, List.cons_append]
          refine wpIn_wide.2 ?_
          go_wp2_with (fail)
          (with_reducible refine (need_any _ H.out).mono ?_)
          rintro e w1 ⟨rfl, h1, h2⟩
          first | rw [Bool.and_false] at h1 | rw [t4, Bool.and_false] at h1
          have HH := Lib.hid (FIN.out w1 h1 h2)
          obtain ⟨c0, c1⟩ := cells_2 h1.h
          clear h1 h2
          go_wp2_with (fail)
          refine ⟨_, results_tmp rfl _ _ _, ?_⟩
          exact HH.out
      · have t3 : decide ((end_ : Int) ≤ (table : Int)) = false := by simp; omega
        clear hno hz
        refine (callsIn_wide (n := 4)).1 ?_
        refine callsIn_of_wp_marks Tryd.func29 rfl trivial ?_ rfl
        simp only [Tryd.ntmps29, List.size_toArray, List.length_cons, List.length_nil, Nat.reduceAdd, Nat.reduceSub, Array.replicate_succ, Array.replicate_zero, List.push_toArray, List.append_toArray, List.nil_append, List.cons_append]
        refine wpIn_wide.2 ?_
        go_wp2_with (fail)
        (with_reducible refine (need_any _ H.out).mono ?_)
        rintro e w1 ⟨rfl, h1, h2⟩
        first | rw [Bool.and_false] at h1 | rw [t4, Bool.and_false] at h1
        have HH := Lib.hid (FIN.out w1 h1 h2)
        obtain ⟨c0, c1⟩ := cells_2 h1.h
        clear h1 h2
        go_wp2_with (fail)
        refine ⟨_, results_tmp rfl _ _ _, ?_⟩
        exact HH.out
    · have t2 : ((tm : Int) == 0) = false := by simp; omega
      clear hno hz
      refine (callsIn_wide (n := 4)).1 ?_
      refine callsIn_of_wp_marks Tryd.func29 rfl trivial ?_ rfl
      simp only [Tryd.ntmps29, List.size_toArray, List.length_cons, List.length_nil, Nat.reduceAdd, Nat.reduceSub, Array.replicate_succ, Array.replicate_zero, List.push_toArray, List.append_toArray, List.nil_append, List.cons_append]
      refine wpIn_wide.2 ?_
      go_wp2_with (fail)
      (with_reducible refine (need_any _ H.out).mono ?_)
      rintro e w1 ⟨rfl, h1, h2⟩
      first | rw [Bool.and_false] at h1 | rw [t4, Bool.and_false] at h1
      have HH := Lib.hid (FIN.out w1 h1 h2)
      obtain ⟨c0, c1⟩ := cells_2 h1.h
      clear h1 h2
      go_wp2_with (fail)
      refine ⟨_, results_tmp rfl _ _ _, ?_⟩
      exact HH.out
  · have t1 : decide ((0 : Int) < (length : Int)) = false := by simp; omega
    clear hno hz
    refine (callsIn_wide (n := 4)).1 ?_
    refine callsIn_of_wp_marks Tryd.func29 rfl trivial ?_ rfl
    simp only [Tryd.ntmps29, List.size_toArray, List.length_cons, List.length_nil, Nat.reduceAdd, Nat.reduceSub, Array.replicate_succ, Array.replicate_zero, List.push_toArray, List.append_toArray, List.nil_append, List.cons_append]
    refine wpIn_wide.2 ?_
    go_wp2_with (fail)
    (with_reducible refine (need_any _ H.out).mono ?_)
    rintro e w1 ⟨rfl, h1, h2⟩
    rw [Bool.and_false] at h1
    have HH := Lib.hid (FIN.out w1 h1 h2)
    obtain ⟨c0, c1⟩ := cells_2 h1.h
    clear h1 h2
    go_wp2_with (fail)
    refine ⟨_, results_tmp rfl _ _ _, ?_⟩
    exact HH.out
set_option maxHeartbeats 4000000 in
theorem sigs_yes {w0 : World} {g : Nat} {A : Option Addr} {n c : Nat} {bs : List UInt8} {w : World} (hI : Img w0 A n c bs) (h : RdS w0 g A n c true w) (table length end_ : Nat) (ht : table < 4294967296) (hl : length < 4294967296) (he : end_ ≤ 17179869184) (hyes : sgB n table length end_ = true) :
    Calls Tryd.prog 29 #[.pointer (some ⟨g, 0, none⟩), .int .i64 (table : Nat), .int .i64 (length : Nat), .int .i64 (end_ : Nat)] w (SigPost w0 w g A n c true bs table length end_) := by
  have HYES := Lib.hid hyes
  have H := Lib.hid h
  have hn := hI.big
  have hgw := block_lt h.h
  have c0 := (cells_2 h.h).1
  obtain ⟨tm, htm⟩ : ∃ x, table % 8 = x := ⟨_, rfl⟩
  have e1 : (table : Int).tmod 8 = (tm : Int) := by rw [← htm]; exact Int.tmod_eq_emod_of_nonneg (by omega)
  have e2 : (table : Int) % 8 = (tm : Int) := by omega
  clear h
  unfold sgB at hyes
  rw [htm] at hyes
  simp only [Bool.and_eq_true, decide_eq_true_eq] at hyes
  obtain ⟨⟨⟨a1, a2⟩, a3⟩, a4⟩ := hyes
  have t1 : decide ((0 : Int) < (length : Int)) = true := by simp; omega
  have t2 : ((tm : Int) == 0) = true := by simp; omega
  have t3 : decide ((end_ : Int) ≤ (table : Int)) = true := by simp; omega
  have t4 : ((table : Int) + (length : Int) == (n : Int)) = true := by simp; omega
  have hta : table ≤ n := by omega
  clear htm
  refine (callsIn_wide (n := 4)).1 ?_
  refine callsIn_of_wp_marks Tryd.func29 rfl trivial ?_ rfl
  simp only [Tryd.ntmps29, List.size_toArray, List.length_cons, List.length_nil, Nat.reduceAdd, Nat.reduceSub, Array.replicate_succ, Array.replicate_zero, List.push_toArray, List.append_toArray, List.nil_append, List.cons_append]
  gi_wp2_with (fail)
  refine ⟨trivial, (callsIn_wide.2 (need_any _ H.out)).mono ?_⟩
  rintro e w1 ⟨rfl, h1, h2⟩
  have h1' : RdS w0 g A n c true w1 := by simpa [t4] using h1
  obtain ⟨c0, c1⟩ := cells_2 h1'.h
  have hg1 : g < w1.heap.size := block_lt h1'.h
  have HH := Lib.hid (And.intro h1' h2)
  have hw0g := h1'.g
  have HNE := h1'.b.size
  clear h1 h2 h1' a1 a2 a3 a4 e1 e2
  gi_wp2_with (fail)
  refine ⟨trivial, (callsIn_wide.2 (rows_any g (table : Int) _)).mono ?_⟩
  rintro e w2 ⟨rfl, rfl⟩
  gi_wp2_with (fail)
  simp only [Nat.add_assoc, Nat.reduceAdd]
  refine wpIn_nm fun W0 hW0 => ?_
  have k0 : W0.heap[w1.heap.size]? = some (.cells #[.slice none 0 0] 26) := by rw [← hW0]; exact has_alloc (has_alloc (has_new w1 _) _) _
  have k2 : W0.heap[w1.heap.size + 1]? = some (.cells #[.pointer (some ⟨g, 0, none⟩)] 58) := by rw [← hW0]; exact has_alloc (has_new' _ _ _ (by simp)) _
  have k1 : W0.heap[w1.heap.size + 2]? = some (.cells #[.int .i64 (table : Int)] 3) := by rw [← hW0]; exact has_new' _ _ _ (by simp)
  have hb0 : Below w1.heap.size w1 W0 := by rw [← hW0]; exact kp_alloc (kp_alloc (kp_alloc (Below.refl _ _) _) _) _
  have hs0 : W0.heap.size = w1.heap.size + 3 := by rw [← hW0]; simp
  have HS0 := Lib.hid hs0
  have r0 : RdS w0 g A n c true W0 := HH.out.1.keep hb0
  have I0 : LG w1 g [] W0 := ⟨⟨none, 0, 0, k0, rfl, OwnR.nil _ _ _ _⟩, ⟨(fun x hx => by cases hx), List.Pairwise.nil⟩, grown_of_below hb0 (Nat.le_refl _) _⟩
  clear hW0
  refine range_runQ (gf := 60) (lb := #[.pointer (some ⟨w1.heap.size + 2, 0, none⟩), .pointer (some ⟨w1.heap.size + 1, 0, none⟩)]) rfl (enters_of Tryd.func60 (by kernel_rfl) rfl) (by omega) sigEnc (fun x => rfl) (fun b => b = w1.heap.size + 2 ∨ b = w1.heap.size + 1 ∨ b = g) (fun b hb => by rw [HS0.out]; omega)
    (fun pre x W => OwnB W (w1.heap.size + 5) x.1 x.2.1 x.2.2.1 x.2.2.2 ∧ x.2.1 ≤ 16777216 ∧ ∀ y ∈ pre, blk y.1 = none ∨ blk y.1 ≠ blk x.1)
    (fun pre W => LG w1 g pre W ∧ (pre = [] → W.heap[w1.heap.size + 2]? = some (.cells #[.int .i64 (table : Int)] 3) ∧ W.heap[w1.heap.size + 1]? = some (.cells #[.pointer (some ⟨g, 0, none⟩)] 58) ∧ ∃ R, RdS w0 g A n c R W ∧ (R = false → rowsQ bs table = none)))
    (fun _ _ => False)
    (fun xs W => ∃ R, RdS w0 g A n c R W ∧ (R = true → rowsQ bs table = some (xs.map fun x => x.2.2.2)) ∧ (R = false → rowsQ bs table = none)) (fun _ => True) (n + 1)
    ?hS ?hI ?hIx ?h0 ?round ?iter ?done ?stop
  case hS =>
    rintro xs W b o h1 h2 ⟨R, hr, hh⟩
    rw [HS0.out] at h1 h2
    exact ⟨R, hr.far (putObj_grown W b o) (by omega) (by omega), hh⟩
  case hI =>
    rintro pre W b o h1 h2 ⟨hi, he⟩
    rw [HS0.out] at h1 h2
    refine ⟨hi.grown hg1 (putObj_grown W b o) (.inr (by omega)) (by omega), fun e => ?_⟩
    obtain ⟨x1, x2, R, x3, x4⟩ := he e
    exact ⟨(World.putObj_heap_other (by omega)).trans x1, (World.putObj_heap_other (by omega)).trans x2, R, x3.far (putObj_grown W b o) (by omega) (by omega), x4⟩
  case hIx => exact fun _ _ _ _ _ _ h => h.elim
  case h0 => exact fun o1 o2 => ⟨(I0.alloc _).alloc _, fun _ => ⟨has_alloc (has_alloc k1 _) _, has_alloc (has_alloc k2 _) _, true, (r0.alloc _).alloc _, fun e => by cases e⟩⟩
  case iter =>
    rw [HS0.out]
    exact rows1_in g n c (w1.heap.size + 3) (w1.heap.size + 2) (w1.heap.size + 1) table A bs w0 hI (by omega) (by omega) ⟨by omega, by omega, by omega⟩ (by omega) (by omega) (by omega) hta (LG w1 g)
      (fun _ _ _ h hg => h.grown hg1 hg (.inl rfl) (by omega)) (fun _ W u h => h.grown hg1 (grown_one W _ 0 u) (.inr (by omega)) (by omega)) (fun _ _ _ h hb => h.new hb) (fun _ _ h => HH.out.1.b.grown h.gr HNE (fun k hk => by injection hk with hk; omega)) (fun _ _ h y hy k hk => ((h.so.own y hy).1.blk_lt hk).2)
  case done =>
    rw [HS0.out]
    rintro xs W ⟨R, hr, hy, hn9⟩ ⟨⟨⟨V, m, cV, hout, hm, hown⟩, hso, hgr⟩, _⟩ hD
    have hc2 := cells_1 hout
    have HO := Lib.hid (And.intro hown (And.intro hso (And.intro hgr (And.intro hm (And.intro hr (And.intro hy hn9))))))
    have HD := Lib.hid hD
    clear hown hD hso hgr hm hr hy hn9
    gi_wp2
    refine ⟨by simp, .inl ⟨_, _, rfl, run_takeDeferred HD.out, ?_⟩⟩
    have hg := putObj_grown W (w1.heap.size + 3) (.deferred none)
    refine ⟨_, results_tmp rfl _ _ _, ?_⟩
    obtain ⟨x1, x2, x3, x4, x5, x6, x7⟩ := HO.out
    have hww := HH.out.2.size
    refine ⟨V, m, cV, xs, R, rfl, ?_, x6, x5.far hg (by omega) (by omega), gr_far (grown_tr HH.out.2 x3) hg (by omega), x4, (x1.kept hg (.inr (fun e => by have := (x1.blk_lt e).1; omega))).lower (by omega), (x2.keep hg (fun k hk => by injection hk with hk; omega)).lower (by omega)⟩
    rw [HYES.out]
    cases hR : R with
    | true => rw [x6 hR]; rfl
    | false => rw [x7 hR]; rfl
  case stop => exact fun _ _ _ h => h.elim
  case round =>
    rw [HS0.out]
    rintro pre x W r o hL hD ⟨hi, _⟩ hq hlen
    obtain ⟨⟨V, m, cV, hout, hm, hown⟩, hso, hgr⟩ := hi
    obtain ⟨X, xn, xc, xbs⟩ := x
    dsimp only at hq
    obtain ⟨hq1, hq2, hq3⟩ := hq
    simp only [sigEnc, Own1.val]
    gi_wp2
    have hLlt := block_lt hL
    refine ⟨hL, hD, fun b hb => trivial, fun r' => ?_⟩
    have hgP := putObj_grown W (w1.heap.size + 3 + 1) (.loop r')
    have b0 : (W.putObj (w1.heap.size + 3 + 1) (.loop r')).heap[w1.heap.size]? = some (.cells #[.slice V m cV] 26) := (World.putObj_heap_other (by omega)).trans hout
    have bL : (W.putObj (w1.heap.size + 3 + 1) (.loop r')).heap[w1.heap.size + 3 + 1]? = some (.loop r') := World.putObj_heap_same (by omega)
    have bO : OwnR (W.putObj (w1.heap.size + 3 + 1) (.loop r')) (w1.heap.size + 5) 22 1 V m cV (pre.map Own1.val) := hown.kept hgP (.inr (fun e => by have := (hown.blk_lt e).1; omega))
    have bS : SigsOwn (w1.heap.size + 5) (pre ++ [((X, xn, xc, xbs) : Own1)]) W := by
      refine ⟨fun y hy => ?_, ?_⟩
      · rcases List.mem_append.1 hy with hy | hy
        · exact hso.own y hy
        · rw [List.mem_singleton.1 hy]; exact ⟨hq1, hq2⟩
      · rw [List.pairwise_append]
        refine ⟨hso.far, List.pairwise_singleton _ _, fun y hy z hz => ?_⟩
        rw [List.mem_singleton.1 hz]
        exact hq3 y hy
    have bG : w1.grownBy (W.putObj (w1.heap.size + 3 + 1) (.loop r')) (some g) := gr_far hgr hgP (by omega)
    have bS := Lib.hid (bS.keep hgP (fun k hk => by injection hk with hk; omega))
    have hoth : ∀ j, j ≠ w1.heap.size + 3 + 1 → (W.putObj (w1.heap.size + 3 + 1) (.loop r')).heap[j]? = W.heap[j]? := fun j hj => World.putObj_heap_other hj
    have hzb : (W.putObj (w1.heap.size + 3 + 1) (.loop r')).heap.size = W.heap.size := by simp [World.putObj]
    generalize (W.putObj (w1.heap.size + 3 + 1) (.loop r')) = Wb at *
    have hc0 := cells_1 b0
    have hf0 := free_1 b0
    have HM := Lib.hid hm
    have hm2 : m ≤ 1000000000 := by omega
    have hWz : w1.heap.size + 5 ≤ Wb.heap.size := by have := block_lt bL; omega
    have HT := Lib.hid (And.intro hoth (And.intro hzb (And.intro bG (And.intro bL hLlt))))
    clear hm hoth hgP hown hso hgr hq1 hq2 hq3 hout hzb hL hlen bG bL
    gi_wp2_with (gi_at_builtin; refine wpListIn_appL bss_rowP _ _ rfl rfl (w1.heap.size + 5) V m cV _ rfl (bO.alloc _) _ 1 1 #[.slice X xn xc] (0, 0) rfl (has_new _ _) rfl (by intro u hu; simp at hu; subst hu; rfl) (by unfold maxLen; omega) (by omega) (by simp; omega) ?_; intro A4 c4 w4 hown4 hg4; have hne4 : ∀ j, j < w1.heap.size + 5 → some j ≠ blk V := (fun j hj e => by have := (bO.blk_lt e.symm).1; omega); have d0 : w4.heap[w1.heap.size]? = some (.cells #[.slice V m cV] 26) := ((hg4.block _ (by simp; omega) (hne4 _ (by omega))).trans (has_alloc b0 _)); have d1 := cells_1 d0; have d2 := free_1 d0)
    obtain ⟨hoth, hzb, bG, bL, hLlt⟩ := HT.out
    have hk : ∀ j, j < w1.heap.size + 5 → j ≠ w1.heap.size → (w4.setCell ⟨w1.heap.size, 0, none⟩ (.slice A4 (m + 1) c4)).heap[j]? = Wb.heap[j]? := fun j hj hne =>
      (heap_set_far _ _ _ _ _ hne).trans ((hg4.block j (by simp; omega) (hne4 _ hj)).trans (heap_alloc_old _ _ (by omega)))
    have hsz4 := hg4.size
    simp at hsz4
    refine ⟨(hk _ (by omega) (by omega)).trans bL, hk _ (by omega) (by omega), fun b hb => hk b (by omega) (by omega), ⟨⟨⟨A4, m + 1, c4, set_1 d0, by simp [HM.out], ?_⟩, ?_, ?_⟩, fun e => by simp at e⟩⟩
    · have := hown4.kept (grown_one w4 (w1.heap.size) 0 (.slice A4 (m + 1) c4)) (.inr (fun e => by have := (hown4.blk_lt e).1; omega))
      simpa [Own1.val] using this
    · exact ((bS.out.below ((Below.refl _ _).alloc (Nat.le_refl _) _)).row (bO.alloc _) hg4).keep (grown_one _ _ _ _) (fun k hk => by injection hk with hk; omega)
    · refine gr_far ?_ (grown_one w4 (w1.heap.size) 0 (.slice A4 (m + 1) c4)) (Nat.le_refl _)
      have ga := gr_new bG ((Below.refl w1.heap.size Wb).alloc bG.size (.cells #[.slice X xn xc] 22))
      exact ⟨hg4.os.trans ga.os, hg4.tape.trans ga.tape, hg4.output.trans ga.output, Nat.le_trans ga.size hg4.size, fun i hi hne => (hg4.block i (Nat.lt_of_lt_of_le hi ga.size) (hne4 i (by omega))).trans (ga.block i hi hne)⟩
theorem sigs_any {w0 : World} {g : Nat} {A : Option Addr} {n c : Nat} {bs : List UInt8} {R : Bool} {w : World} (hI : Img w0 A n c bs) (h : RdS w0 g A n c R w) (table length end_ : Nat) (ht : table < 4294967296) (hl : length < 4294967296) (he : end_ ≤ 17179869184) :
    Calls Tryd.prog 29 #[.pointer (some ⟨g, 0, none⟩), .int .i64 (table : Nat), .int .i64 (length : Nat), .int .i64 (end_ : Nat)] w (SigPost w0 w g A n c R bs table length end_) := by
  cases hq : (R && sgB n table length end_) with
  | false => exact sigs_no hI h table length end_ ht hl he hq
  | true =>
    rw [Bool.and_eq_true] at hq
    obtain ⟨rfl, hq⟩ := hq
    exact sigs_yes hI h table length end_ ht hl he hq
end Go.Proofs.YtjfpiidofbjdhaaDoor

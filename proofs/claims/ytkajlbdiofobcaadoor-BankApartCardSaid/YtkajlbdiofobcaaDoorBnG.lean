/-
  bank: the records, handed out one by one.
-/
import Derived.Test.YtkajlbdiofobcaaDoorBnF
import Derived.Test.YtkajlbdiofobcaaDoorRgR
import Derived.Stop.RegionWithIn
namespace Go.Proofs.YtkajlbdiofobcaaDoor
open Go.RowKit Go
set_option linter.unusedVariables false
set_option linter.unusedSimpArgs false
set_option maxRecDepth 100000
attribute [local go_sem] Oper.semAt_some
/-- A record as it lies in memory. -/
structure RV where
  at_ : Nat
  A : Option Addr
  n : Nat
  c : Nat
  r : RD
def RV.cells (x : RV) : List Value := [.int .i64 (x.at_ : Int), .int .i64 (x.r.key : Int), .slice x.A x.n x.c, .bool x.r.lives]
def RV.pair (x : RV) : Nat × RD := (x.at_, x.r)
def rvEnc (x : RV) : Array Value := #[.agg #[.int .i64 (x.at_ : Int), .int .i64 (x.r.key : Int), .slice x.A x.n x.c, .bool x.r.lives]]
/-- Its body is memory of its own; R is the iterator's own block. -/
def RvOk (D R : Nat) (x : RV) (W : World) : Prop := OwnB W D x.A x.n x.c x.r.body ∧ x.at_ ≤ 4194304 ∧ x.n ≤ 4194304 ∧ ∃ cs, W.heap[R]? = some (.cells cs 85)
theorem end_any (at_ key n c : Nat) (A : Option Addr) (lv : Bool) (h1 : at_ ≤ 4194304) (h2 : n ≤ 4194304) (w : World) :
    Calls Tryd.prog 50 #[.agg #[.int .i64 (at_ : Int), .int .i64 (key : Int), .slice A n c, .bool lv]] w fun e w' => e = .returned (.int .i64 ((at_ + (12 + n) : Nat) : Int)) ∧ Below w.heap.size w w' := by
  have e1 : IntKind.i64.wrap ((at_ : Int) + 12) = (at_ : Int) + 12 := IntWalk.i64_in _ (by omega)
  have e2 : IntKind.i64.wrap ((at_ : Int) + 12 + (n : Int)) = ((at_ + (12 + n) : Nat) : Int) := by rw [IntWalk.i64_in _ (by omega)]; omega
  go_enter Tryd.func50, Tryd.ntmps50
  go_wp2
  go_ret
  exact ⟨rfl, kp_alloc (Below.refl _ _) _⟩
theorem records_any (b : Nat) (w : World) :
    Calls Tryd.prog 49 #[.pointer (some ⟨b, 0, none⟩)] w fun e w' => e = .returned (.func (.func 59) #[] #[.pointer (some ⟨w.heap.size, 0, none⟩)]) ∧ w' = w.alloc (.cells #[.pointer (some ⟨b, 0, none⟩)] 30) := by
  go_enter Tryd.func49, Tryd.ntmps49
  go_wp2
  go_ret
  exact ⟨rfl, rfl⟩
/-- How much is left, by the iterator's state. -/
def leftR (M R : Nat) (u : Value) (w : World) : Nat := match u with
  | .bool true => (match w.cell? ⟨R, 0, none⟩ with
    | some (.int _ k) => M + 1 - k.toNat
    | _ => 0)
  | _ => 0
theorem leftR_true {M R q : Nat} {w : World} {k : IntKind} (h : w.cell? ⟨R, 0, none⟩ = some (.int k (q : Int))) : leftR M R (.bool true) w = M + 1 - q := by
  unfold leftR; simp only [h]; simp
/-- The iterator's state at the place q: the record there, or none. -/
def AtR (X : List UInt8) (D R q : Nat) (u : Value) (W : World) : Prop :=
  (u = .bool true ∧ ∃ (r : RD) (A : Option Addr) (n c : Nat), recQ (X.drop q) = some r ∧ W.heap[R]? = some (.cells #[.int .i64 (q : Int), .int .i64 (r.key : Int), .slice A n c, .bool r.lives] 85) ∧ OwnB W D A n c r.body) ∨
  (u = .bool false ∧ recQ (X.drop q) = none ∧ W.heap[R]? = some (.cells #[.int .i64 0, .int .i64 0, .slice none 0 0, .bool false] 85))
/-- What recordAt answers, for the iterator. -/
def RecE (X : List UInt8) (D q : Nat) (W : World) (e : Ending) (w2 : World) : Prop := ∃ (ok : Bool) (k0 k1 : Int) (A : Option Addr) (n c : Nat) (lv : Bool), e = .returned (.tuple #[.agg #[.int .i64 k0, .int .i64 k1, .slice A n c, .bool lv], .bool ok]) ∧ Below W.heap.size W w2 ∧
  ((ok = true ∧ ∃ r : RD, recQ (X.drop q) = some r ∧ k0 = (q : Int) ∧ k1 = (r.key : Int) ∧ lv = r.lives ∧ OwnB w2 D A n c r.body) ∨ (ok = false ∧ recQ (X.drop q) = none ∧ k0 = 0 ∧ k1 = 0 ∧ A = none ∧ n = 0 ∧ c = 0 ∧ lv = false))
theorem recE_of {X : List UInt8} {D q : Nat} {W : World} {e : Ending} {w2 : World} (hD : D ≤ W.heap.size) (h : RecPost W q (recQ (X.drop q)) e w2) : RecE X D q W e w2 := by
  obtain ⟨h1, h2⟩ := h
  cases hq : recQ (X.drop q) with
  | none =>
    rw [hq] at h1
    exact ⟨false, 0, 0, none, 0, 0, false, h1, h2, .inr ⟨rfl, hq, rfl, rfl, rfl, rfl, rfl, rfl⟩⟩
  | some r =>
    rw [hq] at h1
    obtain ⟨A, n, c, he, ho⟩ := h1
    exact ⟨true, _, _, A, n, c, _, he, h2, .inl ⟨rfl, r, hq, rfl, rfl, rfl, ho.lower hD⟩⟩
/-- So is the state that the iterator keeps of it. -/
theorem atR_of {X : List UInt8} {D q R : Nat} {w2 W : World} {ok lv : Bool} {k0 k1 : Int} {A : Option Addr} {n c : Nat}
    (h : (ok = true ∧ ∃ r : RD, recQ (X.drop q) = some r ∧ k0 = (q : Int) ∧ k1 = (r.key : Int) ∧ lv = r.lives ∧ OwnB w2 D A n c r.body) ∨ (ok = false ∧ recQ (X.drop q) = none ∧ k0 = 0 ∧ k1 = 0 ∧ A = none ∧ n = 0 ∧ c = 0 ∧ lv = false))
    (hR : W.heap[R]? = some (.cells #[.int .i64 k0, .int .i64 k1, .slice A n c, .bool lv] 85)) (ho : ∀ bs, OwnB w2 D A n c bs → OwnB W D A n c bs) : AtR X D R q (.bool ok) W := by
  rcases h with ⟨rfl, r, h1, rfl, rfl, rfl, h2⟩ | ⟨rfl, h1, rfl, rfl, rfl, rfl, rfl, rfl⟩
  · exact .inl ⟨rfl, r, A, n, c, h1, hR, ho _ h2⟩
  · exact .inr ⟨rfl, h1, hR⟩
theorem AtR.keep {X : List UInt8} {D q R : Nat} {u : Value} {W W' : World} (h : AtR X D R q u W) (hR : W'.heap[R]? = W.heap[R]?) (ho : ∀ A n c bs, OwnB W D A n c bs → OwnB W' D A n c bs) : AtR X D R q u W' := by
  rcases h with ⟨h0, r, A, n, c, h1, h2, h3⟩ | ⟨h0, h1, h2⟩
  · exact .inl ⟨h0, r, A, n, c, h1, hR.trans h2, ho _ _ _ _ h3⟩
  · exact .inr ⟨h0, h1, hR.trans h2⟩
/-- Bytes are no record. -/
theorem own_ne {W : World} {D n c : Nat} {A : Option Addr} {bs : List UInt8} {R : Nat} {cs : Array Value} {mk : Nat × Nat} (h : OwnB W D A n c bs) (hR : W.heap[R]? = some (.cells cs 85 mk)) : blk A = none ∨ blk A ≠ some R := by
  refine .inr fun e => ?_
  obtain ⟨cur, hk⟩ := h.kind R e
  rw [hR] at hk
  injection hk with hk
  injection hk with _ h2 _
  exact absurd h2 (by decide)
set_option maxHeartbeats 4000000 in
/-- The iterator. -/
theorem records1_in (base b g a c F C D Bx : Nat) (S : FS) (w0 : World) (hK : BK w0 base b g a c S F C) (hS : S.off = false) (ht : Tabs w0) (hD : w0.heap.size ≤ D)
    (I : Nat → List RV → World → Prop)
    (hIb : ∀ R pre W, I R pre W → Below w0.heap.size w0 W ∧ W.heap[Bx]? = some (.cells #[.pointer (some ⟨b, 0, none⟩)] 30) ∧ D + 2 ≤ W.heap.size ∧ Bx < D)
    (hIc : ∀ R pre W W', I R pre W → Below W.heap.size W W' → I R pre W')
    (hIs : ∀ R pre W j u cs, D + 2 ≤ R → I R pre W → W.heap[R]? = some (.cells cs 85) → I R pre (W.setCell ⟨R, j, none⟩ u)) :
    IterOfR Tryd.prog 4 D 59 #[.pointer (some ⟨Bx, 0, none⟩)] rvEnc (RvOk (D + 2)) I (fun xs => ∃ e, Scan (S.bank F C) (xs.map RV.pair) e) (fun _ => True) (C * S.s + 1) := by
  intro Y Z hYI hYs hY hYb W1 hY0 hW1
  obtain ⟨hb1, hbx1, hd1, hbd⟩ := hIb _ _ _ (hYI (D + 2) _ _ (hY0 _ (Nat.le_refl _)))
  have hM := bank_len hK
  have h16 : 16 ≤ C * S.s := by have := hK.cs; omega
  have hbig : C * S.s ≤ 4194304 := by have := hK.in_; have := hK.fl.big; omega
  have RA := Lib.hid (fun W (hb : Below w0.heap.size w0 W) (hd : D + 2 ≤ W.heap.size) (q : Nat) (hq : q ≤ C * S.s) => (recordAt_any (hK.below hb) hS (ht.below hb) q hq).mono fun e w2 h => recE_of hd h)
  obtain ⟨X, hX⟩ : ∃ X, S.bank F C = X := ⟨_, rfl⟩
  obtain ⟨M, hMM⟩ : ∃ M, C * S.s = M := ⟨_, rfl⟩
  rw [hX] at RA hM
  rw [hMM] at RA h16 hbig hM
  rw [hX]
  rw [hMM] at hY
  have HM := Lib.hid hM
  have HYI := Lib.hid hYI
  have HYS := Lib.hid hYs
  have HYB := Lib.hid hYb
  have HIB := Lib.hid hIb
  have HIC := Lib.hid hIc
  have HIS := Lib.hid hIs
  have HY := Lib.hid hY
  have HY0 := Lib.hid hY0
  have R0 := Lib.hid (RA.out W1 hb1 hd1 16 h16)
  have c1 := cells_1 hbx1
  have HBX := Lib.hid hbx1
  clear hX hMM hM hK ht hS hYI hYs hYb hIb hIc hIs hY hY0 hb1 hbx1
  refine callsIn_of_wp Tryd.func59 rfl trivial ?_ rfl
  simp only [Tryd.ntmps59, List.size_toArray, List.length_cons, List.length_nil, Nat.reduceAdd, Nat.reduceSub, Array.replicate_succ, Array.replicate_zero, List.push_toArray, List.append_toArray, List.nil_append, List.cons_append]
  have START : Hid (∀ W2, Below W1.heap.size W1 W2 → ∀ cs : Array Value, Y W2.heap.size [] (W2.alloc (.cells cs 85))) := fun W2 hb2 cs => by
    have hz := hb2.size
    have hR : D + 2 ≤ W2.heap.size := by omega
    obtain ⟨⟨o, hd⟩, ⟨r, hl⟩⟩ := HYB.out _ _ _ (HY0.out _ hR)
    have hdl := block_lt hd
    have hll := block_lt hl
    have a1 := kp_alloc hb2 (.cells cs 85)
    exact HYS.out _ _ W1 _ (HY0.out _ hR) (HIC.out _ _ _ _ (HYI.out _ _ _ (HY0.out _ hR)) a1) (a1.block _ hdl) (a1.block _ hll)
  gi_wp2_with (refine ⟨trivial, ?_⟩; gi_at_call 60; refine (callsIn_wide.2 R0.out).mono ?_; rintro e w2 ⟨ok, k0, k1, A0, n0, c0, lv, rfl, hb2, hp⟩)
  have hz2 := hb2.size
  have hR : D + 2 ≤ w2.heap.size := by omega
  have hJ := START.out w2 hb2 #[.int .i64 k0, .int .i64 k1, .slice A0 n0 c0, .bool lv]
  have AT0 : Hid (AtR X (D + 2) w2.heap.size 16 (.bool ok) (w2.alloc (.cells #[.int .i64 k0, .int .i64 k1, .slice A0 n0 c0, .bool lv] 85))) := atR_of hp (has_new _ _) (fun bs h => h.alloc _)
  obtain ⟨R, hRe⟩ : ∃ R, w2.heap.size = R := ⟨_, rfl⟩
  rw [hRe] at hR hJ AT0
  try rw [hRe]
  have HJ := Lib.hid hJ
  clear START R0 hp hb2 hz2 hRe hJ c1 HBX
  gi_loopw [4] (fun u wr => ∃ (xs : List RV) (q : Nat) (okr : Bool), u = .bool okr ∧ Y R xs wr ∧ Hid (Got X 16 (xs.map RV.pair) q) ∧ Hid (AtR X (D + 2) R q (.bool okr) wr)) (fun u wr => leftR M R u wr)
  case atStart => exact ⟨[], 16, ok, rfl, HJ.out, Got.nil _, AT0.out⟩
  case round =>
    obtain ⟨xs, q, okr, rfl, hJ, HG, HA⟩ := hrel
    cases okr with
    | false =>
      have HN : Hid (recQ (X.drop q) = none) := by
        rcases HA.out with ⟨h, _⟩ | ⟨_, h, _⟩
        · cases h
        · exact h
      clear HA HJ AT0
      refine wpIn_wide.2 ?_
      go_wp2
      go_end0
      exact ⟨⟨_, rfl⟩, R, hR, .inl ⟨xs, ⟨q, HG.out, HN.out⟩, hJ⟩⟩
    | true =>
      obtain ⟨r, A, n, c, hq, hcell, hown⟩ : ∃ (r : RD) (A : Option Addr) (n c : Nat), recQ (X.drop q) = some r ∧ wr.heap[R]? = some (.cells #[.int .i64 (q : Int), .int .i64 (r.key : Int), .slice A n c, .bool r.lives] 85) ∧ OwnB wr (D + 2) A n c r.body := by
        rcases HA.out with ⟨_, h⟩ | ⟨h, _⟩
        · exact h
        · cases h
      obtain ⟨hqM, hql⟩ := HG.out.le (by rw [HM.out]; exact h16)
      rw [List.length_map] at hql
      rw [HM.out] at hqM
      have hrk := recQ_ok hq
      have hnb : r.body.length = n := hown.len
      have hrl : r.len = 12 + n := by unfold RD.len; rw [hnb]
      have hlen2 := hrk.len
      rw [List.length_drop, HM.out, hrl] at hlen2
      have h13 : 1 ≤ n := by have := hrk.k1; have := hrk.kb; omega
      have hGN : Hid (Got X 16 ((xs ++ [(⟨q, A, n, c, r⟩ : RV)]).map RV.pair) (q + (12 + n))) := by
        show Got X 16 _ _
        rw [List.map_append, ← hrl]
        exact HG.out.snoc hq
      have hlenx : xs.length < M + 1 := by omega
      obtain ⟨fn, tmps, assign, body, hy, hRR⟩ := HY.out R xs ⟨q, A, n, c, r⟩ wr hR hJ ⟨hown, by show q ≤ 4194304; omega, by show n ≤ 4194304; omega, _, hcell⟩ hlenx
      dsimp only [rvEnc] at hy
      obtain ⟨d0, d1, d2, d3⟩ := cells_4 hcell
      have HCELL := Lib.hid hcell
      have HMEAS := Lib.hid (leftR_true (M := M) d0)
      have EN := Lib.hid (fun W => end_any q r.key n c A r.lives (by omega) (by omega) W)
      obtain ⟨q2, hq2⟩ : ∃ q2, q + (12 + n) = q2 := ⟨_, rfl⟩
      rw [hq2] at EN hGN
      have hq2M : q2 ≤ M := by omega
      have hq2q : q < q2 := by omega
      clear HA hq hcell hown hrk hnb hrl hlen2 h13 hql hq2 HJ AT0
      gi_wp2
      refine hRR.mono ?_
      rintro e W3 (⟨rfl, hJ3, hk3⟩ | ⟨rfl, hZ3⟩)
      · obtain ⟨hb3, hbx3, hd3, _⟩ := HIB.out _ _ _ (HYI.out _ _ _ hJ3)
        have hcell3 := hk3.trans HCELL.out
        obtain ⟨d0, d1, d2, d3⟩ := cells_4 hcell3
        have cx := cells_1 hbx3
        have RA2 : Hid (∀ W, Below W3.heap.size W3 W → Calls Tryd.prog 60 #[.pointer (some ⟨b, 0, none⟩), .int .i64 (q2 : Int)] W (RecE X (D + 2) q2 W)) := fun W hb => RA.out W (kp_call hb3 hb) (by have := hb.size; omega) q2 hq2M
        have HC3 := Lib.hid hcell3
        have HJ3 := Lib.hid hJ3
        have HBX3 := Lib.hid hbx3
        clear hb3 hbx3 hd3 hk3 hcell3 hRR hJ hJ3
        gi_wp2
        gi_region_with (first
          | (refine ⟨trivial, ?_⟩; gi_at_call 50; refine (callsIn_wide.2 (EN.out _)).mono ?_; rintro e X1 ⟨rfl, hb4⟩; have hb5 : Below W3.heap.size W3 X1 := (kp_drew (Below.refl _ _)).trans hb4; have cx1 := cells_1 (has_below HBX3.out hb5); have HB5 := Lib.hid hb5; clear hb4 hb5)
          | (refine ⟨trivial, ?_⟩; gi_at_call 60; refine (callsIn_wide.2 (RA2.out _ HB5.out)).mono ?_; rintro e X2 ⟨ok2, j0, j1, A2, n2, c2, lv2, rfl, hb6, hp2⟩; have k6 := has_below HC3.out (kp_call HB5.out hb6); obtain ⟨f0, f1, f2, f3⟩ := free_4 k6; obtain ⟨e0, e1, e2, e3⟩ := cells_4 k6; have HB6 := Lib.hid (kp_call HB5.out hb6); have HK6 := Lib.hid k6; have HP2 := Lib.hid hp2; clear hb6 k6 hp2))
        all_goals
          have HN : Hid (Y R (xs ++ [(⟨q, A, n, c, r⟩ : RV)]) ((((X2.setCell ⟨R, 0, none⟩ (.int .i64 j0)).setCell ⟨R, 1, none⟩ (.int .i64 j1)).setCell ⟨R, 2, none⟩ (.slice A2 n2 c2)).setCell ⟨R, 3, none⟩ (.bool lv2)) ∧ AtR X (D + 2) R q2 (.bool ok2) ((((X2.setCell ⟨R, 0, none⟩ (.int .i64 j0)).setCell ⟨R, 1, none⟩ (.int .i64 j1)).setCell ⟨R, 2, none⟩ (.slice A2 n2 c2)).setCell ⟨R, 3, none⟩ (.bool lv2))) := by
            have i0 := HIC.out _ _ _ _ (HYI.out _ _ _ HJ3.out) HB6.out
            have t0 := HK6.out
            have i1 := HIS.out R _ _ 0 (.int .i64 j0) _ hR i0 t0
            have t1 := heap_set_at _ R 0 _ _ _ (.int .i64 j0) t0
            have i2 := HIS.out R _ _ 1 (.int .i64 j1) _ hR i1 t1
            have t2 := heap_set_at _ R 1 _ _ _ (.int .i64 j1) t1
            have i3 := HIS.out R _ _ 2 (.slice A2 n2 c2) _ hR i2 t2
            have t3 := heap_set_at _ R 2 _ _ _ (.slice A2 n2 c2) t2
            have i4 := HIS.out R _ _ 3 (.bool lv2) _ hR i3 t3
            obtain ⟨⟨o, hd⟩, ⟨rr, hl⟩⟩ := HYB.out _ _ _ HJ3.out
            refine ⟨HYS.out _ _ _ _ HJ3.out i4 ?_ ?_, atR_of HP2.out (set_4 t0) (fun bs h => h.kept (grown_4 _ _) (own_ne h t0))⟩
            · exact (far_4 _ _ _ (by omega)).trans (HB6.out.block _ (block_lt hd))
            · exact (far_4 _ _ _ (by omega)).trans (HB6.out.block _ (block_lt hl))
          have HME : Hid (leftR M R (.bool ok2) ((((X2.setCell ⟨R, 0, none⟩ (.int .i64 j0)).setCell ⟨R, 1, none⟩ (.int .i64 j1)).setCell ⟨R, 2, none⟩ (.slice A2 n2 c2)).setCell ⟨R, 3, none⟩ (.bool lv2)) < leftR M R (.bool true) wr) := by
            show _ < _
            rw [HMEAS.out]
            rcases HN.out.2 with ⟨h, r', A', n', c', _, hk, _⟩ | ⟨h, _, _⟩
            · rw [h, leftR_true (cells_4 hk).1]; omega
            · rw [h]; show 0 < _; omega
          clear HB6 HK6 HP2 HJ3 HC3 HBX3
          simp only [Act.put, List.getElem_toArray, List.getElem_cons_succ, List.getElem_cons_zero, List.setIfInBounds_toArray, List.set_cons_zero, List.set_cons_succ]
          gi_wp2
          go_roundw
          case rel => exact ⟨_, q2, ok2, rfl, HN.out.1, hGN, HN.out.2⟩
          case measure => exact HME.out
      · gi_wp2
        go_end0
        exact ⟨⟨_, rfl⟩, R, hR, .inr ⟨_, trivial, hZ3⟩⟩
end Go.Proofs.YtkajlbdiofobcaaDoor

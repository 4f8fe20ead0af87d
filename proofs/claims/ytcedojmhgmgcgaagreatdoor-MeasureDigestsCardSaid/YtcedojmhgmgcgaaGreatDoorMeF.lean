/-
  measure: ranges, the iterator of an image's ranges.
-/
import Derived.Test.YtcedojmhgmgcgaaGreatDoorMeE
import Derived.Test.YtcedojmhgmgcgaaGreatDoorMeB
namespace Go.Proofs.YtcedojmhgmgcgaaGreatDoor
open Go.RowKit Go
set_option linter.unusedVariables false
set_option linter.unusedSimpArgs false
set_option maxRecDepth 100000
def rngOf (im : Im) (V : Option Addr) (m cV : Nat) (U : Option Addr) (k cU : Nat) (A : Option Addr) (c len : Nat) : RngIn :=
  ⟨im.plus, im.check, im.dir, im.hdr, im.table, im.length, endM im len, V, m, cV, U, k, cU, A, m, c, riseL im.secs⟩
theorem rngOf_all (im : Im) (V : Option Addr) (m cV : Nat) (U : Option Addr) (k cU : Nat) (A : Option Addr) (c len : Nat) : (rngOf im V m cV U k cU A c len).all = rangesM im len := rfl
/-- What an image is to be, so that its ranges can be told. -/
structure ImFit (im : Im) (len : Nat) : Prop where
  n : im.secs.length ≤ 1000
  b : ∀ x ∈ im.secs, x.1 < 4294967296 ∧ x.2 < 4294967296 ∧ 0 < x.2
  c : (chainS (riseL im.secs) im.hdr).1 = true
  ck : im.check ≤ 1000000000
  dr : im.dir ≤ 1000000000
  hd : im.hdr < 4294967296
  tb : im.table < 4294967296
  ln : im.length < 4294967296
  len : len ≤ 8589934592
theorem im_fit (bs : List UInt8) (im : Im) (h : parseQ bs = .inr im) : ImFit im bs.length := by
  obtain ⟨p1, p2, p3, p4, p5, p6, p7, p8, p9, p10, p11⟩ := im_parts bs im h
  obtain ⟨q1, q2, q3, q4, q5⟩ := secs_parts bs p1
  have c := (im_chain bs im h).1
  refine ⟨by rw [p2]; omega, fun x hx => ?_, by rw [chainS_eq]; exact c, by omega, by omega, by omega, ?_, ?_, by omega⟩
  · rw [p2] at hx
    exact secN_lt _ _ _ x hx
  · rcases p11 with ⟨_, h2, _⟩ | ⟨_, _, _, h2, _⟩ <;> omega
  · rcases p11 with ⟨h2, _⟩ | ⟨_, _, _, h2, _⟩ <;> omega
def RangesPost (w : World) (im : Im) (V : Option Addr) (m cV : Nat) (U : Option Addr) (k cU len : Nat) (e : Ending) (w' : World) : Prop :=
  ∃ (gx gs ge : Nat) (A : Option Addr) (c : Nat), e = .returned (.func (.func 40) #[] #[.pointer (some ⟨gx, 0, none⟩), .pointer (some ⟨gs, 0, none⟩), .pointer (some ⟨ge, 0, none⟩)]) ∧ RngIs w' gx gs ge (rngOf im V m cV U k cU A c len) ∧ OwnR w' w.heap.size 60 2 A m c ((riseL im.secs).flatMap secCells) ∧ Below w.heap.size w w' ∧ w.heap.size ≤ gx ∧ w.heap.size ≤ gs ∧ w.heap.size ≤ ge
set_option maxHeartbeats 4000000 in
theorem ranges_any (im : Im) (V : Option Addr) (m cV : Nat) (U : Option Addr) (k cU len : Nat) (w : World) (hR : ReadR w V (im.secs.flatMap secCells)) (hm : m = im.secs.length) (hf : ImFit im len) :
    Calls Tryz.prog 18 #[.agg (imVal im V m cV U k cU), .int .i64 (len : Nat)] w (RangesPost w im V m cV U k cU len) := by
  have hn : m ≤ 1000 := by rw [hm]; exact hf.n
  have hlen := hf.len
  have htb := hf.tb
  have hln := hf.ln
  have hs9 := chain_same
  have HF := Lib.hid hf
  have HM := Lib.hid hm
  have hmf : ∀ (gs : Nat) (A : Option Addr) (c : Nat) (W : World), W.heap[w.heap.size]? = some (.cells #[.bool im.plus, .int .i64 (im.check : Nat), .int .i64 (im.dir : Nat), .int .u32 (im.hdr : Nat), .slice V m cV, .int .u32 (im.table : Nat), .int .u32 (im.length : Nat), .slice U k cU] 30) → W.heap[gs]? = some (.cells #[.slice A m c] 27) → W.heap[gs + 1]? = some (.cells #[.int .i64 (endM im len : Nat)] 3) → ReadR W A ((riseL im.secs).flatMap secCells) → RngIs W w.heap.size gs (gs + 1) (rngOf im V m cV U k cU A c len) := by
    intro gs A c W h1 h2 h3 h4
    refine ⟨h1, h2, h3, h4, ?_, by show m ≤ 100000; omega, hf.ck, hf.dr, hf.hd, ?_, fun y hy => ?_⟩
    · show (riseL im.secs).length = m
      rw [(riseL_perm _).length_eq, hm]
    · show endM im len ≤ _
      unfold endM
      split <;> omega
    · have := hf.b y ((riseL_perm _).mem_iff.1 hy)
      exact ⟨this.1, this.2.1⟩
  have HMF := Lib.hid hmf
  clear hf hm hs9 hmf
  unfold imVal
  go_enter Tryz.func18, Tryz.ntmps18
  go_upto_region 1 with (fail)
  refine wp_nm fun W0 hW0 => ?_
  have k0 : W0.heap[w.heap.size]? = some (.cells #[.bool im.plus, .int .i64 (im.check : Nat), .int .i64 (im.dir : Nat), .int .u32 (im.hdr : Nat), .slice V m cV, .int .u32 (im.table : Nat), .int .u32 (im.length : Nat), .slice U k cU] 30) := by rw [← hW0]; exact has_new w _
  have hb0 : Below w.heap.size w W0 := by rw [← hW0]; exact kp_alloc (Below.refl _ _) _
  obtain ⟨x0, x1, x2, x3, x4, x5, x6, x7⟩ := cells_8 k0
  have H0 := Lib.hid (And.intro k0 (And.intro hb0 (hR.below hb0 (Nat.le_refl _))))
  clear hW0 k0 hb0 hR
  go_wp2_with (fail)
  refine (values_any V m cV W0).mono ?_
  rintro e w1 ⟨rfl, rfl⟩
  have C := Lib.hid (sortedM_any W0.heap.size V m cV im.secs (W0.alloc (.cells #[.slice V m cV] 27)) (H0.out.2.2.alloc _) HM.out.symm (by omega) (has_new _ _))
  clear x0 x1 x2 x3 x4 x5 x6 x7
  go_wp2_with (fail)
  (with_reducible refine C.out.mono ?_)
  clear C
  rintro e w2 ⟨A2, c2, L', rfl, hp, hs, ho, hb2⟩
  have hL : L' = riseL im.secs := (chain_same im.secs L' im.hdr hp hs (fun x hx => (HF.out.b x hx).2.2)).2 HF.out.c
  subst hL
  have hb02 : Below W0.heap.size W0 w2 := kp_call (kp_alloc (Below.refl _ _) _) hb2
  rw [← HM.out] at ho ⊢
  have H2 := Lib.hid (And.intro (has_below H0.out.1 hb02) (And.intro (kp_call H0.out.2.1 hb02) (ho.lower (show w.heap.size ≤ (W0.alloc (.cells #[.slice V m cV] 27)).heap.size by have := H0.out.2.1.size; simp; omega))))
  clear hp hs ho hb2 hb02 H0
  go_upto_region 3 with (fail)
  refine wp_nm fun W3 hW3 => ?_
  obtain ⟨gs, hgs⟩ : ∃ gs, w2.heap.size = gs := ⟨_, rfl⟩
  have k3 : W3.heap[gs]? = some (.cells #[.slice A2 m c2] 27) := by rw [← hW3, ← hgs]; exact has_alloc (has_new _ _) _
  have k4 : W3.heap[gs + 1]? = some (.cells #[.int .i64 (len : Nat)] 3) := by rw [← hW3]; exact has_new' _ _ _ (by simp [hgs])
  have hb3 : Below w2.heap.size w2 W3 := by rw [← hW3]; exact kp_alloc (kp_alloc (Below.refl _ _) _) _
  have hgw : w.heap.size < gs := by have := block_lt H2.out.1; omega
  have K3 := Lib.hid (And.intro (has_below H2.out.1 hb3) (And.intro k3 (And.intro k4 (And.intro (kp_call H2.out.2.1 hb3) (H2.out.2.2.below hb3 (Nat.le_refl _))))))
  obtain ⟨x0, x1, x2, x3, x4, x5, x6, x7⟩ := cells_8 (has_below H2.out.1 hb3)
  have y0 := cells_1 k4
  have y1 := free_1 k4
  have z0 := cells_1 k3
  rw [hgs]
  clear hW3 k3 k4 hb3 H2 hgs
  by_cases hl0 : 0 < im.length
  · have t1 : decide ((0 : Int) < (im.length : Int)) = true := by simp; omega
    have e1 : IntKind.i64.wrap (im.table : Int) = (im.table : Int) := IntWalk.i64_in _ (by omega)
    have FIN : Hid (RngIs (W3.setCell ⟨gs + 1, 0, none⟩ (.int .i64 (im.table : Nat))) w.heap.size gs (gs + 1) (rngOf im V m cV U k cU A2 c2 len) ∧ OwnR (W3.setCell ⟨gs + 1, 0, none⟩ (.int .i64 (im.table : Nat))) w.heap.size 60 2 A2 m c2 ((riseL im.secs).flatMap secCells) ∧ Below w.heap.size w (W3.setCell ⟨gs + 1, 0, none⟩ (.int .i64 (im.table : Nat)))) := by
      have hne9 : blk A2 = none ∨ blk A2 ≠ some (gs + 1) := by
        cases hb9 : blk A2 with
        | none => exact .inl rfl
        | some g9 =>
          right
          intro e9
          injection e9 with e9
          subst e9
          obtain ⟨cur, h9⟩ := K3.out.2.2.2.2.kind _ hb9
          rw [K3.out.2.2.1] at h9
          injection h9 with h9
          injection h9 with _ h9 _
          exact absurd h9 (by decide)
      have ho9 := K3.out.2.2.2.2.kept (grown_one W3 (gs + 1) 0 (.int .i64 (im.table : Nat))) hne9
      refine Lib.hid ⟨HMF.out gs A2 c2 _ (has_set K3.out.1 (by omega)) (has_set K3.out.2.1 (by omega)) ?_ ho9.reads, ho9, kp_set K3.out.2.2.2.1 (by omega)⟩
      have he : endM im len = im.table := if_neg (by omega)
      rw [he]
      exact set_1 K3.out.2.2.1
    clear K3
    go_wp2_with (fail)
    go_ret
    exact ⟨_, _, _, _, _, rfl, FIN.out.1, FIN.out.2.1, FIN.out.2.2, Nat.le_refl _, Nat.le_of_lt hgw, by omega⟩
  · have t1 : decide ((0 : Int) < (im.length : Int)) = false := by simp; omega
    have FIN : Hid (RngIs W3 w.heap.size gs (gs + 1) (rngOf im V m cV U k cU A2 c2 len) ∧ OwnR W3 w.heap.size 60 2 A2 m c2 ((riseL im.secs).flatMap secCells) ∧ Below w.heap.size w W3) := by
      refine Lib.hid ⟨HMF.out gs A2 c2 _ K3.out.1 K3.out.2.1 ?_ K3.out.2.2.2.2.reads, K3.out.2.2.2.2, K3.out.2.2.2.1⟩
      have he : endM im len = len := if_pos (by omega)
      rw [he]
      exact K3.out.2.2.1
    clear K3
    go_wp2_with (fail)
    go_ret
    exact ⟨_, _, _, _, _, rfl, FIN.out.1, FIN.out.2.1, FIN.out.2.2, Nat.le_refl _, Nat.le_of_lt hgw, by omega⟩
end Go.Proofs.YtcedojmhgmgcgaaGreatDoor

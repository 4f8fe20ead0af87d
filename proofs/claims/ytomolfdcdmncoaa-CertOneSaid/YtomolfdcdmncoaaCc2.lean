/-
  cert: spans of time
-/
import Derived.Test.YtomolfdcdmncoaaCc1
import Derived.BigRegion
import Derived.Deep.RegionHeld3
import Derived.Maps.OwnOps
namespace Go.Proofs.Ytomolfdcdmncoaa
open Go.RowKit Go
set_option linter.unusedVariables false
set_option linter.unusedSimpArgs false
set_option maxRecDepth 100000
theorem wp_nmP {Q : Exit → Act → World → Prop} {e : Exit} {a : Act} {w : World} (h : ∀ W, w = W → Q e a W) : Q e a w := h w rfl
theorem utcO_y {bs : List UInt8} {u : Tm} (h : utcO bs = some u) : u.y < 65536 := by
  have key : ∀ (a : Int) (b c d e f : Int), a ≤ 65535 → numsO a b c d e f = some u → u.y < 65536 := fun a b c d e f ha h => by
    unfold numsO at h
    split at h
    · unfold rightO at h
      split at h
      · injection h with h; subst h; show a.toNat < 65536; omega
      · cases h
    · cases h
  unfold utcO at h
  split at h
  · exact key _ _ _ _ _ _ (yearU_le _ _).2 h
  · cases h
theorem genO_y {bs : List UInt8} {u : Tm} (h : genO bs = some u) : u.y < 65536 := by
  unfold genO at h
  split at h
  · unfold numsO at h
    split at h
    · unfold rightO at h
      split at h
      · injection h with h; subst h
        show (yearG (pairAt bs 0) (pairAt bs 2)).toNat < 65536
        have h1 := pairI_le (bs.getD 0 0) (bs.getD (0 + 1) 0)
        have h2 := pairI_le (bs.getD 2 0) (bs.getD (2 + 1) 0)
        have h1 : -1 ≤ pairAt bs 0 ∧ pairAt bs 0 ≤ 99 := h1
        have h2 : -1 ≤ pairAt bs 2 ∧ pairAt bs 2 ≤ 99 := h2
        unfold yearG
        split <;> omega
      · cases h
    · cases h
  · cases h
theorem moQ_y {x : El} {u : Tm} (h : moQ x = some u) : u.y < 65536 := by
  unfold moQ at h
  split at h
  · exact utcO_y h
  · split at h
    · exact genO_y h
    · cases h
set_option maxHeartbeats 4000000 in
theorem span_any (v : EV) (w : World) (h : ElV w v) : Calls Try.prog 65 #[v.val] w (PO w (spQ v.el) fun p e w' => e = .returned (.tuple #[tmV p.1, tmV p.2]) ∧ p.1.y < 65536 ∧ p.2.y < 65536) := by
  have E := Lib.hid h
  clear h
  go_enter Try.func65, Try.ntmps65
  go_upto_region 1 with (fail)
  refine wp_nm fun W0 hW0 => ?_
  have B : Hid (Below w.heap.size w W0) := by rw [← hW0]; exact Lib.hid (kp_alloc (kp_alloc (kp_alloc (Below.refl _ _) _) _) _)
  have Z : Hid (W0.heap[w.heap.size]? = some (.cells #[.int .u8 (v.tag.toNat : Int), .slice v.ba v.bn v.bc, .slice v.ra v.rn v.rc] 46)) := by rw [← hW0]; exact Lib.hid (has_alloc (has_alloc (has_new _ _) _) _)
  have Y1 : Hid (W0.heap[w.heap.size + 1]? = some (.cells #[.int .u16 0, .int .u8 0, .int .u8 0, .int .u8 0, .int .u8 0, .int .u8 0] 25)) := by rw [← hW0]; exact Lib.hid (has_alloc (has_new' _ _ _ (by simp)) _)
  have Y2 : Hid (W0.heap[w.heap.size + 2]? = some (.cells #[.int .u16 0, .int .u8 0, .int .u8 0, .int .u8 0, .int .u8 0, .int .u8 0] 25)) := by rw [← hW0]; exact Lib.hid (has_new' _ _ _ (by simp))
  clear hW0
  obtain ⟨x0, x1, x2⟩ := cells_3 Z.out
  go_wp2_with fail
  refine (within_any v 48 48 rfl _ (E.out.below B.out)).mono ?_
  rintro e1 W1 hp
  cases hq : wiQ v.el 48 with
  | none =>
    obtain ⟨rfl, hb⟩ := hp.no hq
    go_wp2
    exact ⟨rfl, PO.mkNo (by simp only [spQ, Option.bind_some, Option.bind_none, nxQ, enQ, List.map_cons, List.map_nil, hq]) (kp_call B.out hb)⟩
  | some q1 =>
    obtain ⟨⟨r1, vs, rfl, hpl, rfl, hR, FAR1⟩, hb⟩ := hp.yes hq
    have HQ1 := Lib.hid hq
    clear hq hp
    have lt1Z := Nat.lt_of_lt_of_le (block_lt Z.out) hpl
    have lt1Y1 := Nat.lt_of_lt_of_le (block_lt Y1.out) hpl
    have lt1Y2 := Nat.lt_of_lt_of_le (block_lt Y2.out) hpl
    have lw1 : w.heap.size ≤ r1 := Nat.le_trans B.out.size hpl
    have F1 := Lib.hid FAR1
    clear FAR1
    replace B := Lib.hid (kp_call B.out hb)
    replace Z := Lib.hid (has_below Z.out hb)
    replace Y1 := Lib.hid (has_below Y1.out hb)
    replace Y2 := Lib.hid (has_below Y2.out hb)
    clear hb
    have R := Lib.hid hR
    clear hR hpl
    clear x0 x1 x2
    clear Z
    rcases vs with _ | ⟨v1, vs1⟩
    · skip
      go_wp2_with fail
      refine (cnext_nil r1 _ _ R.out).mono ?_
      rintro e2 W2 ⟨rfl, hb⟩
      go_wp2
      exact ⟨rfl, PO.mkNo (by simp only [spQ, Option.bind_some, Option.bind_none, nxQ, enQ, List.map_cons, List.map_nil, HQ1.out]) (kp_call B.out hb)⟩
    go_wp2_with fail
    refine (cnext_any r1 v1 vs1 _ _ R.out).mono ?_
    rintro e2 W2 ⟨rfl, hR, hE, hg⟩
    obtain ⟨cs0, hq0⟩ := R.out.block
    replace B := Lib.hid (kp_grown B.out hg (by omega))
    replace Y1 := Lib.hid (has_grown Y1.out hg (by omega))
    replace Y2 := Lib.hid (has_grown Y2.out hg (by omega))
    clear hq0 cs0 hg
    replace R := Lib.hid hR
    have X1 := Lib.hid hE
    clear hR hE
    go_wp2_with fail
    refine (cmoment_any v1 _ X1.out.vv).mono ?_
    rintro e3 W3 hp
    cases hq : moQ v1.el with
    | none =>
      obtain ⟨rfl, hb⟩ := hp.no hq
      go_wp2
      exact ⟨rfl, PO.mkNo (by simp only [spQ, Option.bind_some, Option.bind_none, nxQ, enQ, List.map_cons, List.map_nil, HQ1.out, hq]) (kp_call B.out hb)⟩
    | some q3 =>
      obtain ⟨rfl, hb⟩ := hp.yes hq
      have HQ3 := Lib.hid hq
      clear hq hp
      replace B := Lib.hid (kp_call B.out hb)
      replace Y1 := Lib.hid (has_below Y1.out hb)
      replace Y2 := Lib.hid (has_below Y2.out hb)
      replace R := Lib.hid (R.out.below hb)
      replace X1 := Lib.hid (X1.out.below hb)
      clear hb
      clear X1
      rcases vs1 with _ | ⟨v2, vs2⟩
      · skip
        go_wp2_with fail
        refine (cnext_nil r1 _ _ R.out).mono ?_
        rintro e4 W4 ⟨rfl, hb⟩
        go_wp2
        exact ⟨rfl, PO.mkNo (by simp only [spQ, Option.bind_some, Option.bind_none, nxQ, enQ, List.map_cons, List.map_nil, HQ1.out, HQ3.out]) (kp_call B.out hb)⟩
      go_wp2_with fail
      refine (cnext_any r1 v2 vs2 _ _ R.out).mono ?_
      rintro e4 W4 ⟨rfl, hR, hE, hg⟩
      obtain ⟨cs0, hq0⟩ := R.out.block
      replace B := Lib.hid (kp_grown B.out hg (by omega))
      replace Y1 := Lib.hid (has_grown Y1.out hg (by omega))
      replace Y2 := Lib.hid (has_grown Y2.out hg (by omega))
      clear hq0 cs0 hg
      replace R := Lib.hid hR
      have X2 := Lib.hid hE
      clear hR hE
      go_wp2_with fail
      refine (cmoment_any v2 _ X2.out.vv).mono ?_
      rintro e5 W5 hp
      cases hq : moQ v2.el with
      | none =>
        obtain ⟨rfl, hb⟩ := hp.no hq
        go_wp2
        exact ⟨rfl, PO.mkNo (by simp only [spQ, Option.bind_some, Option.bind_none, nxQ, enQ, List.map_cons, List.map_nil, HQ1.out, HQ3.out, hq]) (kp_call B.out hb)⟩
      | some q5 =>
        obtain ⟨rfl, hb⟩ := hp.yes hq
        have HQ5 := Lib.hid hq
        clear hq hp
        replace B := Lib.hid (kp_call B.out hb)
        replace Y1 := Lib.hid (has_below Y1.out hb)
        replace Y2 := Lib.hid (has_below Y2.out hb)
        replace R := Lib.hid (R.out.below hb)
        replace X2 := Lib.hid (X2.out.below hb)
        clear hb
        clear X2
        have hy1 := moQ_y HQ3.out
        have hy2 := moQ_y HQ5.out
        obtain ⟨ay, amo, ad, ah, ami, as_⟩ := q3
        obtain ⟨by_, bmo, bd, bh, bmi, bs_⟩ := q5
        simp only [tmV, Tm.cells]
        obtain ⟨f0, f1, f2, f3, f4, f5⟩ := free_6 Y1.out
        obtain ⟨g0, g1, g2, g3, g4, g5⟩ := free_6 Y2.out
        obtain ⟨u0, u1, u2, u3, u4, u5⟩ := cells_6 Y1.out
        obtain ⟨z0, z1, z2, z3, z4, z5⟩ := cells_6 Y2.out
        go_upto_region 3 with (fail)
        clear f0 f1 f2 f3 f4 f5 g0 g1 g2 g3 g4 g5 u0 u1 u2 u3 u4 u5 z0 z1 z2 z3 z4 z5
        refine wp_nm fun W6 hW6 => ?_
        have A1 := set_6 (v0 := .int .u16 (ay : Int)) (v1 := .int .u8 (amo.toNat : Int)) (v2 := .int .u8 (ad.toNat : Int)) (v3 := .int .u8 (ah.toNat : Int)) (v4 := .int .u8 (ami.toNat : Int)) (v5 := .int .u8 (as_.toNat : Int)) Y1.out
        have A2 := (far_6 (v0 := .int .u16 (ay : Int)) (v1 := .int .u8 (amo.toNat : Int)) (v2 := .int .u8 (ad.toNat : Int)) (v3 := .int .u8 (ah.toNat : Int)) (v4 := .int .u8 (ami.toNat : Int)) (v5 := .int .u8 (as_.toNat : Int)) _ (w.heap.size + 1) (w.heap.size + 1 + 1) (by omega)).trans Y2.out
        have A3 := R.out.kept (grown_6 (v0 := .int .u16 (ay : Int)) (v1 := .int .u8 (amo.toNat : Int)) (v2 := .int .u8 (ad.toNat : Int)) (v3 := .int .u8 (ah.toNat : Int)) (v4 := .int .u8 (ami.toNat : Int)) (v5 := .int .u8 (as_.toNat : Int)) _ (w.heap.size + 1)) Y1.out (by decide) (by decide) (by omega)
        have A4 := below_6 (v0 := .int .u16 (ay : Int)) (v1 := .int .u8 (amo.toNat : Int)) (v2 := .int .u8 (ad.toNat : Int)) (v3 := .int .u8 (ah.toNat : Int)) (v4 := .int .u8 (ami.toNat : Int)) (v5 := .int .u8 (as_.toNat : Int)) (g := w.heap.size + 1) B.out (by omega)
        have B1 := (far_6 (v0 := .int .u16 (by_ : Int)) (v1 := .int .u8 (bmo.toNat : Int)) (v2 := .int .u8 (bd.toNat : Int)) (v3 := .int .u8 (bh.toNat : Int)) (v4 := .int .u8 (bmi.toNat : Int)) (v5 := .int .u8 (bs_.toNat : Int)) _ (w.heap.size + 1 + 1) (w.heap.size + 1) (by omega)).trans A1
        have B2 := set_6 (v0 := .int .u16 (by_ : Int)) (v1 := .int .u8 (bmo.toNat : Int)) (v2 := .int .u8 (bd.toNat : Int)) (v3 := .int .u8 (bh.toNat : Int)) (v4 := .int .u8 (bmi.toNat : Int)) (v5 := .int .u8 (bs_.toNat : Int)) A2
        have B3 := A3.kept (grown_6 (v0 := .int .u16 (by_ : Int)) (v1 := .int .u8 (bmo.toNat : Int)) (v2 := .int .u8 (bd.toNat : Int)) (v3 := .int .u8 (bh.toNat : Int)) (v4 := .int .u8 (bmi.toNat : Int)) (v5 := .int .u8 (bs_.toNat : Int)) _ (w.heap.size + 1 + 1)) A2 (by decide) (by decide) (by omega)
        have B4 := below_6 (v0 := .int .u16 (by_ : Int)) (v1 := .int .u8 (bmo.toNat : Int)) (v2 := .int .u8 (bd.toNat : Int)) (v3 := .int .u8 (bh.toNat : Int)) (v4 := .int .u8 (bmi.toNat : Int)) (v5 := .int .u8 (bs_.toNat : Int)) (g := w.heap.size + 1 + 1) A4 (by omega)
        rw [hW6] at B1 B2 B3 B4
        clear A1 A2 A3 A4 Y1 Y2 R B hW6
        have Y1 := Lib.hid B1
        have Y2 := Lib.hid B2
        have R := Lib.hid B3
        have B := Lib.hid B4
        clear B1 B2 B3 B4
        rcases vs2 with _ | ⟨vx, vxs⟩
        rotate_left
        · skip
          go_wp2_with fail
          refine (cend_no r1 vx vxs _ _ R.out).mono ?_
          rintro e6 W6 ⟨rfl, rfl⟩
          go_wp2
          exact ⟨rfl, PO.mkNo (by simp only [spQ, Option.bind_some, Option.bind_none, nxQ, enQ, List.map_cons, List.map_nil, HQ1.out, HQ3.out, HQ5.out]) B.out⟩
        go_wp2_with fail
        refine (cend_yes r1 _ _ R.out).mono ?_
        rintro e6 W6 ⟨rfl, rfl⟩
        obtain ⟨u0, u1, u2, u3, u4, u5⟩ := cells_6 Y1.out
        obtain ⟨z0, z1, z2, z3, z4, z5⟩ := cells_6 Y2.out
        obtain ⟨d, hd⟩ : ∃ d, lessB ⟨by_, bmo, bd, bh, bmi, bs_⟩ ⟨ay, amo, ad, ah, ami, as_⟩ = d := ⟨_, rfl⟩
        have HD := Lib.hid hd
        have HLS := Lib.hid (fun W => less_any ⟨by_, bmo, bd, bh, bmi, bs_⟩ ⟨ay, amo, ad, ah, ami, as_⟩ W hy2 hy1)
        simp only [tmV, Tm.cells] at HLS
        rw [hd] at HLS
        clear hd
        go_wp2_with fail
        refine (HLS.out _).mono ?_
        rintro e W7 ⟨rfl, hb⟩
        clear u0 u1 u2 u3 u4 u5 z0 z1 z2 z3 z4 z5 HLS
        replace B := Lib.hid (kp_call B.out hb)
        replace Y1 := Lib.hid (has_below Y1.out hb)
        replace Y2 := Lib.hid (has_below Y2.out hb)
        clear hb
        cases d with
        | true =>
          have HG := Lib.hid (gd_no (p := lessB ⟨by_, bmo, bd, bh, bmi, bs_⟩ ⟨ay, amo, ad, ah, ami, as_⟩ = false) (by rw [HD.out]; simp))
          go_wp2_with fail
          refine (need_no _).mono ?_
          rintro e W8 ⟨rfl, rfl⟩
          go_wp2
          exact ⟨rfl, PO.mkNo (by simp only [spQ, Option.bind_some, Option.bind_none, nxQ, enQ, List.map_cons, List.map_nil, HQ1.out, HQ3.out, HQ5.out, HG.out]) B.out⟩
        | false =>
          have HG := Lib.hid (gd_yes (p := lessB ⟨by_, bmo, bd, bh, bmi, bs_⟩ ⟨ay, amo, ad, ah, ami, as_⟩ = false) HD.out)
          go_wp2_with fail
          refine (need_yes _).mono ?_
          rintro e W8 ⟨rfl, rfl⟩
          obtain ⟨f0, f1, f2, f3, f4, f5⟩ := free_6 Y1.out
          obtain ⟨g0, g1, g2, g3, g4, g5⟩ := free_6 Y2.out
          obtain ⟨u0, u1, u2, u3, u4, u5⟩ := cells_6 Y1.out
          obtain ⟨z0, z1, z2, z3, z4, z5⟩ := cells_6 Y2.out
          go_upto_region 5 with (fail)
          go_region
          clear f0 f1 f2 f3 f4 f5 g0 g1 g2 g3 g4 g5 u0 u1 u2 u3 u4 u5 z0 z1 z2 z3 z4 z5
          go_wp2
          refine wp_nmP fun W9 hW9 => ?_
          have A1 := set_6 (v0 := .int .u16 (ay : Int)) (v1 := .int .u8 (amo.toNat : Int)) (v2 := .int .u8 (ad.toNat : Int)) (v3 := .int .u8 (ah.toNat : Int)) (v4 := .int .u8 (ami.toNat : Int)) (v5 := .int .u8 (as_.toNat : Int)) Y1.out
          have A2 := (far_6 (v0 := .int .u16 (ay : Int)) (v1 := .int .u8 (amo.toNat : Int)) (v2 := .int .u8 (ad.toNat : Int)) (v3 := .int .u8 (ah.toNat : Int)) (v4 := .int .u8 (ami.toNat : Int)) (v5 := .int .u8 (as_.toNat : Int)) _ (w.heap.size + 1) (w.heap.size + 1 + 1) (by omega)).trans Y2.out
          have A4 := below_6 (v0 := .int .u16 (ay : Int)) (v1 := .int .u8 (amo.toNat : Int)) (v2 := .int .u8 (ad.toNat : Int)) (v3 := .int .u8 (ah.toNat : Int)) (v4 := .int .u8 (ami.toNat : Int)) (v5 := .int .u8 (as_.toNat : Int)) (g := w.heap.size + 1) B.out (by omega)
          have B1 := (far_6 (v0 := .int .u16 (by_ : Int)) (v1 := .int .u8 (bmo.toNat : Int)) (v2 := .int .u8 (bd.toNat : Int)) (v3 := .int .u8 (bh.toNat : Int)) (v4 := .int .u8 (bmi.toNat : Int)) (v5 := .int .u8 (bs_.toNat : Int)) _ (w.heap.size + 1 + 1) (w.heap.size + 1) (by omega)).trans A1
          have B2 := set_6 (v0 := .int .u16 (by_ : Int)) (v1 := .int .u8 (bmo.toNat : Int)) (v2 := .int .u8 (bd.toNat : Int)) (v3 := .int .u8 (bh.toNat : Int)) (v4 := .int .u8 (bmi.toNat : Int)) (v5 := .int .u8 (bs_.toNat : Int)) A2
          have B4 := below_6 (v0 := .int .u16 (by_ : Int)) (v1 := .int .u8 (bmo.toNat : Int)) (v2 := .int .u8 (bd.toNat : Int)) (v3 := .int .u8 (bh.toNat : Int)) (v4 := .int .u8 (bmi.toNat : Int)) (v5 := .int .u8 (bs_.toNat : Int)) (g := w.heap.size + 1 + 1) A4 (by omega)
          replace B1 := has_drew B1
          replace B2 := has_drew B2
          replace B4 := B4.drew
          rw [hW9] at B1 B2 B4
          clear hW9 A1 A2 A4
          refine bodyPost_ret (results_cc Try.results65 _ (LV.agg B1 Try.underlying25 rfl (by kernel_rfl)) (LV.agg B2 Try.underlying25 rfl (by kernel_rfl))) rfl ?_
          exact PO.mk (x := (⟨ay, amo, ad, ah, ami, as_⟩, ⟨by_, bmo, bd, bh, bmi, bs_⟩)) (by simp only [spQ, Option.bind_some, Option.bind_none, nxQ, enQ, List.map_cons, List.map_nil, HQ1.out, HQ3.out, HQ5.out, HG.out, HG.out]) ⟨rfl, hy1, hy2⟩ B4
end Go.Proofs.Ytomolfdcdmncoaa
namespace Go.Proofs.Ytomolfdcdmncoaa
open Go.RowKit Go
set_option linter.unusedVariables false
set_option linter.unusedSimpArgs false
set_option maxRecDepth 100000
theorem wbQ_len {x : El} {l : List UInt8} (h : wbQ x = some l) : l.length ≤ x.2.length := by
  unfold wbQ at h
  obtain ⟨_, _, h⟩ := Option.bind_eq_some_iff.1 h
  obtain ⟨p, hp, h⟩ := Option.bind_eq_some_iff.1 h
  obtain ⟨_, _, h⟩ := Option.bind_eq_some_iff.1 h
  injection h with h
  subst h
  match hx : x.2 with
  | [] => rw [hx] at hp; cases hp
  | d :: r =>
    rw [hx] at hp
    simp only [bitsQ] at hp
    split at hp
    · cases hp
    · split at hp
      · cases hp
      · simp only [Option.some.injEq] at hp
        subst hp
        simp
theorem RowP.box {W : World} {base p : Nat} {vs : List EV} (h : RowP W base p vs) : boxLen p W = vs.length := by
  obtain ⟨A, n, c, A0, n0, c0, xs, h⟩ := h
  rw [boxLen_of h.at_, h.len]
set_option maxHeartbeats 4000000 in
theorem key_any (v : EV) (w : World) (h : ElV w v) : Calls Try.prog 66 #[v.val] w (PO w (keQ v.el) fun p e w' => ∃ A n c, e = .returned (.agg #[.slice A n c, .int .u64 (p.2 : Int)]) ∧ OwnB w' w.heap.size A n c p.1) := by
  have E := Lib.hid h
  clear h
  go_enter Try.func66, Try.ntmps66
  go_upto_region 1 with (fail)
  refine wp_nm fun W0 hW0 => ?_
  have B : Hid (Below w.heap.size w W0) := by rw [← hW0]; exact Lib.hid (kp_alloc (kp_alloc (Below.refl _ _) _) _)
  have Z : Hid (W0.heap[w.heap.size]? = some (.cells #[.int .u8 (v.tag.toNat : Int), .slice v.ba v.bn v.bc, .slice v.ra v.rn v.rc] 46)) := by rw [← hW0]; exact Lib.hid (has_alloc (has_new _ _) _)
  have Y1 : Hid (W0.heap[w.heap.size + 1]? = some (.cells #[.slice none 0 0, .int .u64 0] 31)) := by rw [← hW0]; exact Lib.hid (has_new' _ _ _ (by simp))
  clear hW0
  obtain ⟨x0, x1, x2⟩ := cells_3 Z.out
  go_wp2_with fail
  refine (within_any v 48 48 rfl _ (E.out.below B.out)).mono ?_
  rintro e1 W1 hp
  cases hq : wiQ v.el 48 with
  | none =>
    obtain ⟨rfl, hb⟩ := hp.no hq
    go_wp2
    exact ⟨rfl, PO.mkNo (by simp only [keQ, Option.bind_some, Option.bind_none, nxQ, enQ, List.map_cons, List.map_nil, hq]) (kp_call B.out hb)⟩
  | some q1 =>
    obtain ⟨⟨r1, vs, rfl, hpl, rfl, hR, FAR1⟩, hb⟩ := hp.yes hq
    have HQ1 := Lib.hid hq
    clear hq hp
    have lt1Z := Nat.lt_of_lt_of_le (block_lt Z.out) hpl
    have lt1Y1 := Nat.lt_of_lt_of_le (block_lt Y1.out) hpl
    have lw1 : w.heap.size ≤ r1 := Nat.le_trans B.out.size hpl
    have F1 := Lib.hid FAR1
    clear FAR1
    replace B := Lib.hid (kp_call B.out hb)
    replace Z := Lib.hid (has_below Z.out hb)
    replace Y1 := Lib.hid (has_below Y1.out hb)
    clear hb
    have R := Lib.hid hR
    clear hR hpl
    clear x0 x1 x2
    clear Z
    rcases vs with _ | ⟨v1, vs1⟩
    · skip
      go_wp2_with fail
      refine (cnext_nil r1 _ _ R.out).mono ?_
      rintro e2 W2 ⟨rfl, hb⟩
      go_wp2
      exact ⟨rfl, PO.mkNo (by simp only [keQ, Option.bind_some, Option.bind_none, nxQ, enQ, List.map_cons, List.map_nil, HQ1.out]) (kp_call B.out hb)⟩
    go_wp2_with fail
    refine (cnext_any r1 v1 vs1 _ _ R.out).mono ?_
    rintro e2 W2 ⟨rfl, hR, hE, hg⟩
    obtain ⟨cs0, hq0⟩ := R.out.block
    replace B := Lib.hid (kp_grown B.out hg (by omega))
    replace Y1 := Lib.hid (has_grown Y1.out hg (by omega))
    clear hq0 cs0 hg
    replace R := Lib.hid hR
    have X1 := Lib.hid hE
    clear hR hE
    go_wp2_with fail
    refine (isKey_any v1 _ X1.out.vv).mono ?_
    rintro e3 W3 hp
    cases hq : meQ v1.el 1 with
    | none =>
      obtain ⟨rfl, hb⟩ := hp.no hq
      go_wp2
      exact ⟨rfl, PO.mkNo (by simp only [keQ, Option.bind_some, Option.bind_none, nxQ, enQ, List.map_cons, List.map_nil, HQ1.out, hq]) (kp_call B.out hb)⟩
    | some q3 =>
      obtain ⟨rfl, hb⟩ := hp.yes hq
      have HQ3 := Lib.hid hq
      clear hq hp
      replace B := Lib.hid (kp_call B.out hb)
      replace Y1 := Lib.hid (has_below Y1.out hb)
      replace R := Lib.hid (R.out.below hb)
      replace X1 := Lib.hid (X1.out.below hb)
      clear hb
      clear X1
      rcases vs1 with _ | ⟨v2, vs2⟩
      · skip
        go_wp2_with fail
        refine (cnext_nil r1 _ _ R.out).mono ?_
        rintro e4 W4 ⟨rfl, hb⟩
        go_wp2
        exact ⟨rfl, PO.mkNo (by simp only [keQ, Option.bind_some, Option.bind_none, nxQ, enQ, List.map_cons, List.map_nil, HQ1.out, HQ3.out]) (kp_call B.out hb)⟩
      go_wp2_with fail
      refine (cnext_any r1 v2 vs2 _ _ R.out).mono ?_
      rintro e4 W4 ⟨rfl, hR, hE, hg⟩
      obtain ⟨cs0, hq0⟩ := R.out.block
      replace B := Lib.hid (kp_grown B.out hg (by omega))
      replace Y1 := Lib.hid (has_grown Y1.out hg (by omega))
      clear hq0 cs0 hg
      replace R := Lib.hid hR
      have X2 := Lib.hid hE
      clear hR hE
      go_wp2_with fail
      refine (cwholeBits_any v2 _ X2.out.vv).mono ?_
      rintro e5 W5 hp
      cases hq : wbQ v2.el with
      | none =>
        obtain ⟨rfl, hb⟩ := hp.no hq
        go_wp2
        exact ⟨rfl, PO.mkNo (by simp only [keQ, Option.bind_some, Option.bind_none, nxQ, enQ, List.map_cons, List.map_nil, HQ1.out, HQ3.out, hq]) (kp_call B.out hb)⟩
      | some q5 =>
        obtain ⟨⟨A2, n2, c2, rfl, ho2⟩, hb⟩ := hp.yes hq
        have HQ5 := Lib.hid hq
        clear hq hp
        replace B := Lib.hid (kp_call B.out hb)
        replace Y1 := Lib.hid (has_below Y1.out hb)
        replace R := Lib.hid (R.out.below hb)
        replace X2 := Lib.hid (X2.out.below hb)
        clear hb
        have hl2 : n2 ≤ 1000000 := by
          have h1 := wbQ_len HQ5.out
          have h2 := ho2.len
          have h3 := X2.out.b.len
          have h4 := X2.out.bl
          have h5 : v2.el.2 = v2.body := rfl
          rw [h5] at h1
          omega
        have O2 := Lib.hid ho2
        clear ho2
        clear X2
        go_wp2_with fail
        refine (single_any A2 n2 c2 q5 _ O2.out.rb O2.out.cap.1 O2.out.cap.2 hl2).mono ?_
        rintro e6 W6 hp
        cases hq : siQ q5 with
        | none =>
          obtain ⟨rfl, hb⟩ := hp.no hq
          go_wp2
          exact ⟨rfl, PO.mkNo (by simp only [keQ, Option.bind_some, Option.bind_none, nxQ, enQ, List.map_cons, List.map_nil, HQ1.out, HQ3.out, HQ5.out, hq]) (kp_call B.out hb)⟩
        | some q6 =>
          obtain ⟨⟨v3, rfl, rfl, hE3, hf3⟩, hb⟩ := hp.yes hq
          have HQ6 := Lib.hid hq
          clear hq hp
          replace B := Lib.hid (kp_call B.out hb)
          replace Y1 := Lib.hid (has_below Y1.out hb)
          replace R := Lib.hid (R.out.below hb)
          clear hb
          have X3 := Lib.hid hE3
          clear hE3 hf3 O2 hl2
          go_wp2_with fail
          refine (within_any v3 48 48 rfl _ X3.out.vv).mono ?_
          rintro e7 W7 hp
          cases hq : wiQ v3.el 48 with
          | none =>
            obtain ⟨rfl, hb⟩ := hp.no hq
            go_wp2
            exact ⟨rfl, PO.mkNo (by simp only [keQ, Option.bind_some, Option.bind_none, nxQ, enQ, List.map_cons, List.map_nil, HQ1.out, HQ3.out, HQ5.out, HQ6.out, hq]) (kp_call B.out hb)⟩
          | some q7 =>
            obtain ⟨⟨r4, us, rfl, hpl, rfl, hR, FAR7⟩, hb⟩ := hp.yes hq
            have HQ7 := Lib.hid hq
            clear hq hp
            have lt7Y1 := Nat.lt_of_lt_of_le (block_lt Y1.out) hpl
            have lt7R := Nat.lt_of_lt_of_le R.out.lt hpl
            have lw7 : w.heap.size ≤ r4 := Nat.le_trans B.out.size hpl
            have F7 := Lib.hid FAR7
            clear FAR7
            replace B := Lib.hid (kp_call B.out hb)
            replace Y1 := Lib.hid (has_below Y1.out hb)
            replace R := Lib.hid (R.out.below hb)
            replace X3 := Lib.hid (X3.out.below hb)
            clear hb
            have R4 := Lib.hid hR
            clear hR hpl
            clear X3
            rcases vs2 with _ | ⟨vx, vxs⟩
            rotate_left
            · skip
              go_wp2_with fail
              refine (cend_no r1 vx vxs _ _ R.out).mono ?_
              rintro e8 W8 ⟨rfl, rfl⟩
              go_wp2
              exact ⟨rfl, PO.mkNo (by simp only [keQ, Option.bind_some, Option.bind_none, nxQ, enQ, List.map_cons, List.map_nil, HQ1.out, HQ3.out, HQ5.out, HQ6.out, HQ7.out]) B.out⟩
            go_wp2_with fail
            refine (cend_yes r1 _ _ R.out).mono ?_
            rintro e8 W8 ⟨rfl, rfl⟩
            rcases us with _ | ⟨v4, us4⟩
            · skip
              go_wp2_with fail
              refine (cnext_nil r4 _ _ R4.out).mono ?_
              rintro e9 W9 ⟨rfl, hb⟩
              go_wp2
              exact ⟨rfl, PO.mkNo (by simp only [keQ, Option.bind_some, Option.bind_none, nxQ, enQ, List.map_cons, List.map_nil, HQ1.out, HQ3.out, HQ5.out, HQ6.out, HQ7.out]) (kp_call B.out hb)⟩
            go_wp2_with fail
            refine (cnext_any r4 v4 us4 _ _ R4.out).mono ?_
            rintro e9 W9 ⟨rfl, hR, hE, hg⟩
            obtain ⟨cs0, hq0⟩ := R4.out.block
            replace B := Lib.hid (kp_grown B.out hg (by omega))
            replace Y1 := Lib.hid (has_grown Y1.out hg (by omega))
            replace R := Lib.hid (R.out.kept hg hq0 (by decide) (by decide) (by omega))
            clear hq0 cs0 hg
            replace R4 := Lib.hid hR
            have X4 := Lib.hid hE
            clear hR hE
            have LW := Lib.hid B.out.size
            go_wp2_with fail
            refine (cnumber_any v4 _ X4.out.vv).mono ?_
            rintro e10 W10 hp
            cases hq : nuQ v4.el with
            | none =>
              obtain ⟨rfl, hb⟩ := hp.no hq
              go_wp2
              exact ⟨rfl, PO.mkNo (by simp only [keQ, Option.bind_some, Option.bind_none, nxQ, enQ, List.map_cons, List.map_nil, HQ1.out, HQ3.out, HQ5.out, HQ6.out, HQ7.out, hq]) (kp_call B.out hb)⟩
            | some q10 =>
              obtain ⟨⟨A4, n4, c4, rfl, ho4⟩, hb⟩ := hp.yes hq
              have HQ10 := Lib.hid hq
              clear hq hp
              replace B := Lib.hid (kp_call B.out hb)
              replace Y1 := Lib.hid (has_below Y1.out hb)
              replace R := Lib.hid (R.out.below hb)
              replace R4 := Lib.hid (R4.out.below hb)
              replace X4 := Lib.hid (X4.out.below hb)
              clear hb
              have O4 := Lib.hid ho4
              clear ho4
              clear X4
              rcases us4 with _ | ⟨v5, us5⟩
              · skip
                go_wp2_with fail
                refine (cnext_nil r4 _ _ R4.out).mono ?_
                rintro e11 W11 ⟨rfl, hb⟩
                go_wp2
                exact ⟨rfl, PO.mkNo (by simp only [keQ, Option.bind_some, Option.bind_none, nxQ, enQ, List.map_cons, List.map_nil, HQ1.out, HQ3.out, HQ5.out, HQ6.out, HQ7.out, HQ10.out]) (kp_call B.out hb)⟩
              go_wp2_with fail
              refine (cnext_any r4 v5 us5 _ _ R4.out).mono ?_
              rintro e11 W11 ⟨rfl, hR, hE, hg⟩
              obtain ⟨cs0, hq0⟩ := R4.out.block
              replace B := Lib.hid (kp_grown B.out hg (by omega))
              replace Y1 := Lib.hid (has_grown Y1.out hg (by omega))
              replace R := Lib.hid (R.out.kept hg hq0 (by decide) (by decide) (by omega))
              replace O4 := Lib.hid (O4.out.keptK hg hq0 (by decide))
              clear hq0 cs0 hg
              replace R4 := Lib.hid hR
              have X5 := Lib.hid hE
              clear hR hE
              go_wp2_with fail
              refine (small_any v5 8589934592 8589934592 rfl (by omega) _ X5.out.vv).mono ?_
              rintro e12 W12 hp
              cases hq : smQ v5.el 8589934592 with
              | none =>
                obtain ⟨rfl, hb⟩ := hp.no hq
                go_wp2
                exact ⟨rfl, PO.mkNo (by simp only [keQ, Option.bind_some, Option.bind_none, nxQ, enQ, List.map_cons, List.map_nil, HQ1.out, HQ3.out, HQ5.out, HQ6.out, HQ7.out, HQ10.out, hq]) (kp_call B.out hb)⟩
              | some q12 =>
                obtain ⟨rfl, hb⟩ := hp.yes hq
                have HQ12 := Lib.hid hq
                clear hq hp
                replace B := Lib.hid (kp_call B.out hb)
                replace Y1 := Lib.hid (has_below Y1.out hb)
                replace R := Lib.hid (R.out.below hb)
                replace R4 := Lib.hid (R4.out.below hb)
                replace O4 := Lib.hid (O4.out.below hb (Nat.le_refl _))
                replace X5 := Lib.hid (X5.out.below hb)
                clear hb
                clear X5
                go_upto_region 6 with (fail)
                refine wp_nm fun W20 hW20 => ?_
                obtain ⟨g, hg⟩ : ∃ g, W12.heap.size = g := ⟨_, rfl⟩
                have hb := kp_alloc (Below.refl W12.heap.size W12) (.cells #[.slice A4 n4 c4, .int .u64 (q12 : Int)] 31)
                have hz := has_new W12 (.cells #[.slice A4 n4 c4, .int .u64 (q12 : Int)] 31)
                rw [hW20] at hb hz
                rw [hg] at hz
                try rw [hg]
                have hgl := Nat.lt_of_lt_of_le (block_lt Y1.out) (Nat.le_of_eq hg)
                have Z := Lib.hid hz
                clear hW20 hz hg
                replace B := Lib.hid (kp_call B.out hb)
                replace Y1 := Lib.hid (has_below Y1.out hb)
                replace R := Lib.hid (R.out.below hb)
                replace R4 := Lib.hid (R4.out.below hb)
                replace O4 := Lib.hid (O4.out.below hb (Nat.le_refl _))
                clear hb
                rcases us5 with _ | ⟨vx, vxs⟩
                rotate_left
                · skip
                  go_wp2_with fail
                  refine (cend_no r4 vx vxs _ _ R4.out).mono ?_
                  rintro e13 W13 ⟨rfl, rfl⟩
                  go_wp2
                  exact ⟨rfl, PO.mkNo (by simp only [keQ, Option.bind_some, Option.bind_none, nxQ, enQ, List.map_cons, List.map_nil, HQ1.out, HQ3.out, HQ5.out, HQ6.out, HQ7.out, HQ10.out, HQ12.out]) B.out⟩
                go_wp2_with fail
                refine (cend_yes r4 _ _ R4.out).mono ?_
                rintro e13 W13 ⟨rfl, rfl⟩
                obtain ⟨x0, x1⟩ := cells_2 Z.out
                obtain ⟨u0, u1⟩ := cells_2 Y1.out
                obtain ⟨f0, f1⟩ := free_2 Y1.out
                have hne : w.heap.size + 1 ≠ g := by omega
                go_wp2
                refine bodyPost_ret (results_c Try.results66 _ (LV.agg (set_2 Y1.out) Try.underlying31 rfl (by kernel_rfl))) rfl ?_
                exact PO.mk (x := (q10, q12)) (by simp only [keQ, Option.bind_some, Option.bind_none, nxQ, enQ, List.map_cons, List.map_nil, HQ1.out, HQ3.out, HQ5.out, HQ6.out, HQ7.out, HQ10.out, HQ12.out]) ⟨A4, n4, c4, rfl, (O4.out.lower LW.out).keptK (grown_2 _ _) Y1.out (by decide)⟩ (below_2 B.out (by omega))
set_option maxHeartbeats 4000000 in
theorem constraints_any (v : EV) (w : World) (h : ElV w v) : Calls Try.prog 88 #[v.val] w (PO w (coQ v.el) fun p e w' => e = .returned (.tuple #[.bool p.1, .int .i64 p.2])) := by
  have E := Lib.hid h
  clear h
  go_enter Try.func88, Try.ntmps88
  go_upto_region 1 with (fail)
  refine wp_nm fun W0 hW0 => ?_
  have B : Hid (Below w.heap.size w W0) := by rw [← hW0]; exact Lib.hid (kp_alloc (Below.refl _ _) _)
  have Z : Hid (W0.heap[w.heap.size]? = some (.cells #[.int .u8 (v.tag.toNat : Int), .slice v.ba v.bn v.bc, .slice v.ra v.rn v.rc] 46)) := by rw [← hW0]; exact Lib.hid (has_new _ _)
  clear hW0
  obtain ⟨x0, x1, x2⟩ := cells_3 Z.out
  go_wp2_with fail
  refine (within_any v 48 48 rfl _ (E.out.below B.out)).mono ?_
  rintro e1 W1 hp
  cases hq : wiQ v.el 48 with
  | none =>
    obtain ⟨rfl, hb⟩ := hp.no hq
    go_wp2
    exact ⟨rfl, PO.mkNo (by simp only [coQ, Option.bind_some, Option.bind_none, nxQ, enQ, List.map_cons, List.map_nil, hq]) (kp_call B.out hb)⟩
  | some q1 =>
    obtain ⟨⟨r1, vs, rfl, hpl, rfl, hR, FAR1⟩, hb⟩ := hp.yes hq
    have HQ1 := Lib.hid hq
    clear hq hp
    have lt1Z := Nat.lt_of_lt_of_le (block_lt Z.out) hpl
    have lw1 : w.heap.size ≤ r1 := Nat.le_trans B.out.size hpl
    have F1 := Lib.hid FAR1
    clear FAR1
    replace B := Lib.hid (kp_call B.out hb)
    replace Z := Lib.hid (has_below Z.out hb)
    clear hb
    have R := Lib.hid hR
    clear hR hpl
    clear x0 x1 x2
    clear Z
    rcases vs with _ | ⟨v1, vs1⟩
    · skip
      go_wp2_with fail
      refine (cmore_any r1 [] _ _ R.out).mono ?_
      rintro e2 W2 ⟨rfl, rfl⟩
      go_wp2_with fail
      go_wp2_with fail
      refine (cmore_any r1 [] _ _ R.out).mono ?_
      rintro e3 W3 ⟨rfl, rfl⟩
      go_wp2_with fail
      refine (cend_yes r1 _ _ R.out).mono ?_
      rintro e20 W20 ⟨rfl, rfl⟩
      go_wp2
      go_ret2
      exact PO.mk (x := (false, -1)) (by simp only [coQ, Option.bind_some, Option.bind_none, nxQ, enQ, List.map_cons, List.map_nil, HQ1.out]) rfl B.out
    go_wp2_with fail
    refine (cmore_any r1 (v1 :: vs1) _ _ R.out).mono ?_
    rintro e2 W2 ⟨rfl, rfl⟩
    go_wp2_with fail
    refine (cnext_any r1 v1 vs1 _ _ R.out).mono ?_
    rintro e3 W3 ⟨rfl, hR, hE, hg⟩
    obtain ⟨cs0, hq0⟩ := R.out.block
    replace B := Lib.hid (kp_grown B.out hg (by omega))
    clear hq0 cs0 hg
    replace R := Lib.hid hR
    have X1 := Lib.hid hE
    clear hR hE
    go_wp2_with fail
    refine (isTrue_any v1 _ X1.out.vv).mono ?_
    rintro e4 W4 hp
    cases hq : itQ v1.el with
    | none =>
      obtain ⟨rfl, hb⟩ := hp.no hq
      go_wp2
      exact ⟨rfl, PO.mkNo (by simp only [coQ, Option.bind_some, Option.bind_none, nxQ, enQ, List.map_cons, List.map_nil, HQ1.out, hq]) (kp_call B.out hb)⟩
    | some q4 =>
      obtain ⟨rfl, hb⟩ := hp.yes hq
      have HQ4 := Lib.hid hq
      clear hq hp
      replace B := Lib.hid (kp_call B.out hb)
      replace R := Lib.hid (R.out.below hb)
      replace X1 := Lib.hid (X1.out.below hb)
      clear hb
      clear X1
      rcases vs1 with _ | ⟨v2, vs2⟩
      · skip
        go_wp2_with fail
        refine (cmore_any r1 [] _ _ R.out).mono ?_
        rintro e5 W5 ⟨rfl, rfl⟩
        go_wp2_with fail
        refine (cend_yes r1 _ _ R.out).mono ?_
        rintro e20 W20 ⟨rfl, rfl⟩
        go_wp2
        go_ret2
        exact PO.mk (x := (true, -1)) (by simp only [coQ, Option.bind_some, Option.bind_none, nxQ, enQ, List.map_cons, List.map_nil, HQ1.out, HQ4.out]) rfl B.out
      go_wp2_with fail
      refine (cmore_any r1 (v2 :: vs2) _ _ R.out).mono ?_
      rintro e5 W5 ⟨rfl, rfl⟩
      go_wp2_with fail
      refine (cnext_any r1 v2 vs2 _ _ R.out).mono ?_
      rintro e6 W6 ⟨rfl, hR, hE, hg⟩
      obtain ⟨cs0, hq0⟩ := R.out.block
      replace B := Lib.hid (kp_grown B.out hg (by omega))
      clear hq0 cs0 hg
      replace R := Lib.hid hR
      have X2 := Lib.hid hE
      clear hR hE
      go_wp2_with fail
      refine (small_any v2 256 256 rfl (by omega) _ X2.out.vv).mono ?_
      rintro e7 W7 hp
      cases hq : smQ v2.el 256 with
      | none =>
        obtain ⟨rfl, hb⟩ := hp.no hq
        go_wp2
        exact ⟨rfl, PO.mkNo (by simp only [coQ, Option.bind_some, Option.bind_none, nxQ, enQ, List.map_cons, List.map_nil, HQ1.out, HQ4.out, hq]) (kp_call B.out hb)⟩
      | some q7 =>
        obtain ⟨rfl, hb⟩ := hp.yes hq
        have HQ7 := Lib.hid hq
        clear hq hp
        replace B := Lib.hid (kp_call B.out hb)
        replace R := Lib.hid (R.out.below hb)
        replace X2 := Lib.hid (X2.out.below hb)
        clear hb
        clear X2
        have hq256 : q7 < 256 := by
          have h1 := HQ7.out
          unfold smQ at h1
          obtain ⟨_, _, h1⟩ := Option.bind_eq_some_iff.1 h1
          obtain ⟨_, _, h1⟩ := Option.bind_eq_some_iff.1 h1
          obtain ⟨_, h2, h1⟩ := Option.bind_eq_some_iff.1 h1
          injection h1 with h1
          subst h1
          exact gd_some h2
        have hcv : IntKind.i64.wrap (q7 : Int) = (q7 : Int) := by rw [IntKind.wrap_i64]; omega
        rcases vs2 with _ | ⟨vx, vxs⟩
        rotate_left
        · skip
          go_wp2_with fail
          refine (cend_no r1 vx vxs _ _ R.out).mono ?_
          rintro e8 W8 ⟨rfl, rfl⟩
          go_wp2
          exact ⟨rfl, PO.mkNo (by simp only [coQ, Option.bind_some, Option.bind_none, nxQ, enQ, List.map_cons, List.map_nil, HQ1.out, HQ4.out, HQ7.out]) B.out⟩
        go_wp2_with fail
        refine (cend_yes r1 _ _ R.out).mono ?_
        rintro e8 W8 ⟨rfl, rfl⟩
        go_wp2
        go_ret2
        exact PO.mk (x := (true, (q7 : Int))) (by simp only [coQ, Option.bind_some, Option.bind_none, nxQ, enQ, List.map_cons, List.map_nil, HQ1.out, HQ4.out, HQ7.out]) rfl B.out
end Go.Proofs.Ytomolfdcdmncoaa
namespace Go.Proofs.Ytomolfdcdmncoaa
open Go.RowKit Go
set_option linter.unusedVariables false
set_option linter.unusedSimpArgs false
set_option maxRecDepth 100000
theorem sumB_lt (b : List UInt8) : ∀ k, sumB b k < 2 ^ k
  | 0 => Nat.one_pos
  | k + 1 => by
    have h1 := sumB_lt b k
    have h2 : bitN b k ≤ 1 := by unfold bitN; omega
    have h3 : bitN b k * 2 ^ k ≤ 1 * 2 ^ k := Nat.mul_le_mul_right _ h2
    simp only [sumB, Nat.pow_succ]
    omega
theorem and1u (x : Int) (h0 : 0 ≤ x) (h1 : x < 256) : bits BinOp.and IntKind.u8 x 1 = x % 2 := by
  obtain ⟨n, rfl⟩ : ∃ n : Nat, x = (n : Int) := ⟨x.toNat, by omega⟩
  have := u8_and_nat n 1 (by omega) (by omega)
  rw [show 1 = 2 ^ 1 - 1 from rfl, Nat.and_two_pow_sub_one_eq_mod] at this
  exact this.trans (by omega)
theorem orC (x y : Int) : bits BinOp.or IntKind.i64 x y = bits BinOp.or IntKind.i64 y x := by
  unfold bits
  simp only [BitVec.or_comm]
theorem w64 (x : Int) (h0 : 0 ≤ x) (h1 : x < 1000000) : wrap64 x = x := by
  unfold wrap64; omega
theorem orS0 (S m : Int) (hS0 : 0 ≤ S) (hS : S < 1) (hm0 : 0 ≤ m) (hm : m ≤ 1) : bits BinOp.or IntKind.i64 S (m * 1) = S + m * 1 := by
  rw [orC, bits_join .i64 63 (by decide) (fun n h₀ h₁ => by rw [IntKind.wrap_i64]; omega) 0 (m * 1) S (by omega) (by omega) (by omega) (by omega) (by omega) (by omega)]
  omega
theorem orS1 (S m : Int) (hS0 : 0 ≤ S) (hS : S < 2) (hm0 : 0 ≤ m) (hm : m ≤ 1) : bits BinOp.or IntKind.i64 S (m * 2) = S + m * 2 := by
  rw [orC, bits_join .i64 63 (by decide) (fun n h₀ h₁ => by rw [IntKind.wrap_i64]; omega) 1 (m * 2) S (by omega) (by omega) (by omega) (by omega) (by omega) (by omega)]
  omega
theorem orS2 (S m : Int) (hS0 : 0 ≤ S) (hS : S < 4) (hm0 : 0 ≤ m) (hm : m ≤ 1) : bits BinOp.or IntKind.i64 S (m * 4) = S + m * 4 := by
  rw [orC, bits_join .i64 63 (by decide) (fun n h₀ h₁ => by rw [IntKind.wrap_i64]; omega) 2 (m * 4) S (by omega) (by omega) (by omega) (by omega) (by omega) (by omega)]
  omega
theorem orS3 (S m : Int) (hS0 : 0 ≤ S) (hS : S < 8) (hm0 : 0 ≤ m) (hm : m ≤ 1) : bits BinOp.or IntKind.i64 S (m * 8) = S + m * 8 := by
  rw [orC, bits_join .i64 63 (by decide) (fun n h₀ h₁ => by rw [IntKind.wrap_i64]; omega) 3 (m * 8) S (by omega) (by omega) (by omega) (by omega) (by omega) (by omega)]
  omega
theorem orS4 (S m : Int) (hS0 : 0 ≤ S) (hS : S < 16) (hm0 : 0 ≤ m) (hm : m ≤ 1) : bits BinOp.or IntKind.i64 S (m * 16) = S + m * 16 := by
  rw [orC, bits_join .i64 63 (by decide) (fun n h₀ h₁ => by rw [IntKind.wrap_i64]; omega) 4 (m * 16) S (by omega) (by omega) (by omega) (by omega) (by omega) (by omega)]
  omega
theorem orS5 (S m : Int) (hS0 : 0 ≤ S) (hS : S < 32) (hm0 : 0 ≤ m) (hm : m ≤ 1) : bits BinOp.or IntKind.i64 S (m * 32) = S + m * 32 := by
  rw [orC, bits_join .i64 63 (by decide) (fun n h₀ h₁ => by rw [IntKind.wrap_i64]; omega) 5 (m * 32) S (by omega) (by omega) (by omega) (by omega) (by omega) (by omega)]
  omega
theorem orS6 (S m : Int) (hS0 : 0 ≤ S) (hS : S < 64) (hm0 : 0 ≤ m) (hm : m ≤ 1) : bits BinOp.or IntKind.i64 S (m * 64) = S + m * 64 := by
  rw [orC, bits_join .i64 63 (by decide) (fun n h₀ h₁ => by rw [IntKind.wrap_i64]; omega) 6 (m * 64) S (by omega) (by omega) (by omega) (by omega) (by omega) (by omega)]
  omega
theorem orS7 (S m : Int) (hS0 : 0 ≤ S) (hS : S < 128) (hm0 : 0 ≤ m) (hm : m ≤ 1) : bits BinOp.or IntKind.i64 S (m * 128) = S + m * 128 := by
  rw [orC, bits_join .i64 63 (by decide) (fun n h₀ h₁ => by rw [IntKind.wrap_i64]; omega) 7 (m * 128) S (by omega) (by omega) (by omega) (by omega) (by omega) (by omega)]
  omega
theorem orS8 (S m : Int) (hS0 : 0 ≤ S) (hS : S < 256) (hm0 : 0 ≤ m) (hm : m ≤ 1) : bits BinOp.or IntKind.i64 S (m * 256) = S + m * 256 := by
  rw [orC, bits_join .i64 63 (by decide) (fun n h₀ h₁ => by rw [IntKind.wrap_i64]; omega) 8 (m * 256) S (by omega) (by omega) (by omega) (by omega) (by omega) (by omega)]
  omega
set_option maxHeartbeats 8000000 in
theorem usage_any (v : EV) (w : World) (h : ElV w v) : Calls Try.prog 89 #[v.val] w (PO w (usQ v.el) fun n e w' => e = .returned (.int .i64 (n : Int))) := by
  have HT := Lib.hid h.tgq
  have E := Lib.hid h
  clear h
  go_enter Try.func89, Try.ntmps89
  go_upto_region 1 with (fail)
  refine wp_nm fun W0 hW0 => ?_
  have B : Hid (Below w.heap.size w W0) := by rw [← hW0]; exact Lib.hid (kp_alloc (Below.refl _ _) _)
  have Z : Hid (W0.heap[w.heap.size]? = some (.cells #[.int .u8 (v.tag.toNat : Int), .slice v.ba v.bn v.bc, .slice v.ra v.rn v.rc] 46)) := by rw [← hW0]; exact Lib.hid (has_new _ _)
  clear hW0
  obtain ⟨x0, x1, x2⟩ := cells_3 Z.out
  by_cases hc1 : v.tag.toNat = 3
  rotate_left
  · skip
    have p1 : ((v.tag.toNat : Int) == 3) = false := beq_eq_false_iff_ne.2 (by omega)
    go_wp2_with fail
    refine (need_no _).mono ?_
    rintro e1 W1 ⟨rfl, rfl⟩
    have HN1 := Lib.hid (gd_no (p := tg v.el = 3) (by rw [HT.out]; exact hc1))
    go_wp2
    exact ⟨rfl, PO.mkNo (by simp only [usQ, Option.bind_some, Option.bind_none, nxQ, enQ, List.map_cons, List.map_nil, HN1.out]) B.out⟩
  have p1 : ((v.tag.toNat : Int) == 3) = true := by rw [hc1]; rfl
  go_wp2_with fail
  refine (need_yes _).mono ?_
  rintro e1 W1 ⟨rfl, rfl⟩
  have HN1 := Lib.hid (gd_yes (p := tg v.el = 3) (by rw [HT.out]; exact hc1))
  clear p1
  go_wp2_with fail
  refine (bits_any v.ba v.bn v.bc v.body _ (E.out.b.below B.out) E.out.bc (by have := E.out.bl; omega) (maxLen_i64 E.out.bcc)).mono ?_
  rintro e W hp
  unfold BitsPost at hp
  cases hq : bitsQ v.body with
  | none =>
    rw [hq] at hp
    obtain ⟨rfl, hb⟩ := hp
    have hq2 : bitsQ v.el.2 = none := hq
    go_wp2_with fail
    refine (need_no _).mono ?_
    rintro e W2 ⟨rfl, rfl⟩
    go_wp2
    exact ⟨rfl, PO.mkNo (by simp only [usQ, HN1.out, hq2, Option.bind_some, Option.bind_none]) (kp_call B.out hb)⟩
  | some l =>
    obtain ⟨l, u⟩ := l
    rw [hq] at hp
    obtain ⟨⟨A, n, c, rfl, ho⟩, hb⟩ := hp
    have hq2 : bitsQ v.el.2 = some (l, u) := hq
    have hn6 : n ≤ 1000000 ∧ u ≤ 7 := by
      have h1 := ho.len
      have h2 := E.out.b.1
      have h3 := E.out.bl
      match hx : v.body with
      | [] => rw [hx] at hq; cases hq
      | d :: r =>
        rw [hx] at hq h2
        simp only [bitsQ] at hq
        split at hq
        · cases hq
        · split at hq
          · cases hq
          · simp only [Option.some.injEq, Prod.mk.injEq] at hq
            obtain ⟨rfl, rfl⟩ := hq
            simp only [List.length_cons] at h2
            omega
    obtain ⟨hn6, hu7⟩ := hn6
    have HQ := Lib.hid hq2
    have hln := ho.len
    have HLN := Lib.hid hln
    have HB := Lib.hid (kp_call B.out hb)
    have HR := Lib.hid ho.rb
    clear hq hq2 ho hb x0 x1 x2 Z hln
    have hm : IntKind.i64.wrap (8 * (n : Int)) = 8 * (n : Int) := by rw [IntKind.wrap_i64]; omega
    have hm2 : IntKind.i64.wrap (8 * (n : Int) - (u : Int)) = 8 * (n : Int) - (u : Int) := by rw [IntKind.wrap_i64]; omega
    by_cases hok : u < 8 * n ∧ 8 * n - u ≤ 9
    rotate_left
    · have HG := Lib.hid (gd_no (p := u < 8 * l.length ∧ 8 * l.length - u ≤ 9) (by rw [HLN.out]; exact hok))
      by_cases h1 : u < 8 * n
      · have p1 : decide ((1 : Int) ≤ 8 * (n : Int) - (u : Int)) = true := decide_eq_true (by omega)
        have p2 : decide (8 * (n : Int) - (u : Int) ≤ 9) = false := decide_eq_false (by omega)
        go_wp2_with fail
        refine (need_no _).mono ?_
        rintro e W2 ⟨rfl, rfl⟩
        go_wp2
        exact ⟨rfl, PO.mkNo (by simp only [usQ, HN1.out, HQ.out, HG.out, Option.bind_some, Option.bind_none]) HB.out⟩
      · have p1 : decide ((1 : Int) ≤ 8 * (n : Int) - (u : Int)) = false := decide_eq_false (by omega)
        go_wp2_with fail
        refine (need_no _).mono ?_
        rintro e W2 ⟨rfl, rfl⟩
        go_wp2
        exact ⟨rfl, PO.mkNo (by simp only [usQ, HN1.out, HQ.out, HG.out, Option.bind_some, Option.bind_none]) HB.out⟩
    obtain ⟨hok1, hok2⟩ := hok
    have HG := Lib.hid (gd_yes (p := u < 8 * l.length ∧ 8 * l.length - u ≤ 9) (by rw [HLN.out]; exact ⟨hok1, hok2⟩))
    have p1 : decide ((1 : Int) ≤ 8 * (n : Int) - (u : Int)) = true := decide_eq_true (by omega)
    have p2 : decide (8 * (n : Int) - (u : Int) ≤ 9) = true := decide_eq_true (by omega)
    go_wp2_with fail
    refine (need_yes _).mono ?_
    rintro e W2 ⟨rfl, rfl⟩
    clear p1 p2
    go_wp2_with fail
    go_loop [7, 8, 37] (fun s b i => ∃ j S L : Nat, j ≤ 8 * n - u ∧ i = .int .i64 j ∧ s = .int .i64 S ∧ b = .int .i64 L ∧ Hid (S = sumB l j) ∧ Hid (0 < j → L = bitN l (j - 1))) (fun _ _ i => 9 - (intOf i).toNat)
    case atStart => exact ⟨0, 0, 0, Nat.zero_le _, rfl, rfl, rfl, rfl, Lib.hid (fun h => absurd h (Nat.lt_irrefl 0))⟩
    case round =>
      obtain ⟨j, S, L, hj, rfl, rfl, rfl, HS, HL⟩ := hrel
      by_cases hlt : j < 8 * n - u
      · have HSL := Lib.hid (sumB_lt l j)
        clear hm hm2
        have hltI : (j : Int) < 8 * (n : Int) - (u : Int) := by omega
        have hjj : j = 0 ∨ j = 1 ∨ j = 2 ∨ j = 3 ∨ j = 4 ∨ j = 5 ∨ j = 6 ∨ j = 7 ∨ j = 8 := by omega
        rcases hjj with rfl | rfl | rfl | rfl | rfl | rfl | rfl | rfl | rfl
        · obtain ⟨b, off, d, rfl, _, hd, hcell⟩ := HR.out.at_ (k := 0) (by omega)
          have y0 : W2.cell? ⟨b, off, none⟩ = some (.int .u8 (d.toNat : Int)) := hcell
          have hdl := d.toNat_lt
          have HBN : Hid (bitN l 0 = d.toNat / 2 ^ 7 % 2) := by
            refine Lib.hid ?_
            unfold bitN nth
            rw [show 0 / 8 = 0 from rfl, List.getD_eq_getElem?_getD, hd]
            rfl
          obtain ⟨m, hm⟩ : ∃ m : Nat, d.toNat / 128 % 2 = m := ⟨_, rfl⟩
          have hm1 : m ≤ 1 := by omega
          have HA1 : Hid (bits BinOp.and IntKind.u8 ((d.toNat : Int) / 128) 1 = (m : Int)) := by unfold Hid; rw [and1u _ (by omega) (by omega)]; omega
          have HA2 := Lib.hid (w64 (m : Int) (by omega) (by omega))
          have HA3 := Lib.hid (w64 ((m : Int) * 1) (by omega) (by omega))
          have HA4 : Hid (bits BinOp.or IntKind.i64 (S : Int) ((m : Int)) = (S : Int) + (m : Int)) := by
            unfold Hid
            have h2 := orS0 (S : Int) (m : Int) (by omega) (by have h1 := HSL.out; rw [← HS.out] at h1; exact_mod_cast h1) (by omega) (by omega)
            simpa using h2
          have HM := Lib.hid (show bitN l 0 = m by rw [HBN.out]; exact hm)
          have hS9 : (S : Int) < 512 := by have h1 := HSL.out; rw [← HS.out] at h1; have h2 : (2 : Nat) ^ 0 ≤ 512 := by decide
                                           omega
          clear hd hcell hm
          go_wp2
          simp only [HA1.out, HA2.out, HA3.out, HA4.out]
          go_round
          case rel => exact ⟨1, S + m * 1, m, by omega, by go_num, (by first | rfl | (congr 1; push_cast; omega)), rfl, by unfold Hid; rw [HS.out, show sumB l 1 = sumB l 0 + bitN l 0 * 2 ^ 0 from rfl, HM.out], Lib.hid (fun _ => HM.out.symm)⟩
          case measure => simp [intOf]
        · obtain ⟨b, off, d, rfl, _, hd, hcell⟩ := HR.out.at_ (k := 0) (by omega)
          have y0 : W2.cell? ⟨b, off, none⟩ = some (.int .u8 (d.toNat : Int)) := hcell
          have hdl := d.toNat_lt
          have HBN : Hid (bitN l 1 = d.toNat / 2 ^ 6 % 2) := by
            refine Lib.hid ?_
            unfold bitN nth
            rw [show 1 / 8 = 0 from rfl, List.getD_eq_getElem?_getD, hd]
            rfl
          obtain ⟨m, hm⟩ : ∃ m : Nat, d.toNat / 64 % 2 = m := ⟨_, rfl⟩
          have hm1 : m ≤ 1 := by omega
          have HA1 : Hid (bits BinOp.and IntKind.u8 ((d.toNat : Int) / 64) 1 = (m : Int)) := by unfold Hid; rw [and1u _ (by omega) (by omega)]; omega
          have HA2 := Lib.hid (w64 (m : Int) (by omega) (by omega))
          have HA3 := Lib.hid (w64 ((m : Int) * 2) (by omega) (by omega))
          have HA4 : Hid (bits BinOp.or IntKind.i64 (S : Int) ((m : Int) * 2) = (S : Int) + (m : Int) * 2) := by
            unfold Hid
            have h2 := orS1 (S : Int) (m : Int) (by omega) (by have h1 := HSL.out; rw [← HS.out] at h1; exact_mod_cast h1) (by omega) (by omega)
            exact h2
          have HM := Lib.hid (show bitN l 1 = m by rw [HBN.out]; exact hm)
          have hS9 : (S : Int) < 512 := by have h1 := HSL.out; rw [← HS.out] at h1; have h2 : (2 : Nat) ^ 1 ≤ 512 := by decide
                                           omega
          clear hd hcell hm
          go_wp2
          simp only [HA1.out, HA2.out, HA3.out, HA4.out]
          go_round
          case rel => exact ⟨2, S + m * 2, m, by omega, by go_num, (by first | rfl | (congr 1; push_cast; omega)), rfl, by unfold Hid; rw [HS.out, show sumB l 2 = sumB l 1 + bitN l 1 * 2 ^ 1 from rfl, HM.out], Lib.hid (fun _ => HM.out.symm)⟩
          case measure => simp [intOf]
        · obtain ⟨b, off, d, rfl, _, hd, hcell⟩ := HR.out.at_ (k := 0) (by omega)
          have y0 : W2.cell? ⟨b, off, none⟩ = some (.int .u8 (d.toNat : Int)) := hcell
          have hdl := d.toNat_lt
          have HBN : Hid (bitN l 2 = d.toNat / 2 ^ 5 % 2) := by
            refine Lib.hid ?_
            unfold bitN nth
            rw [show 2 / 8 = 0 from rfl, List.getD_eq_getElem?_getD, hd]
            rfl
          obtain ⟨m, hm⟩ : ∃ m : Nat, d.toNat / 32 % 2 = m := ⟨_, rfl⟩
          have hm1 : m ≤ 1 := by omega
          have HA1 : Hid (bits BinOp.and IntKind.u8 ((d.toNat : Int) / 32) 1 = (m : Int)) := by unfold Hid; rw [and1u _ (by omega) (by omega)]; omega
          have HA2 := Lib.hid (w64 (m : Int) (by omega) (by omega))
          have HA3 := Lib.hid (w64 ((m : Int) * 4) (by omega) (by omega))
          have HA4 : Hid (bits BinOp.or IntKind.i64 (S : Int) ((m : Int) * 4) = (S : Int) + (m : Int) * 4) := by
            unfold Hid
            have h2 := orS2 (S : Int) (m : Int) (by omega) (by have h1 := HSL.out; rw [← HS.out] at h1; exact_mod_cast h1) (by omega) (by omega)
            exact h2
          have HM := Lib.hid (show bitN l 2 = m by rw [HBN.out]; exact hm)
          have hS9 : (S : Int) < 512 := by have h1 := HSL.out; rw [← HS.out] at h1; have h2 : (2 : Nat) ^ 2 ≤ 512 := by decide
                                           omega
          clear hd hcell hm
          go_wp2
          simp only [HA1.out, HA2.out, HA3.out, HA4.out]
          go_round
          case rel => exact ⟨3, S + m * 4, m, by omega, by go_num, (by first | rfl | (congr 1; push_cast; omega)), rfl, by unfold Hid; rw [HS.out, show sumB l 3 = sumB l 2 + bitN l 2 * 2 ^ 2 from rfl, HM.out], Lib.hid (fun _ => HM.out.symm)⟩
          case measure => simp [intOf]
        · obtain ⟨b, off, d, rfl, _, hd, hcell⟩ := HR.out.at_ (k := 0) (by omega)
          have y0 : W2.cell? ⟨b, off, none⟩ = some (.int .u8 (d.toNat : Int)) := hcell
          have hdl := d.toNat_lt
          have HBN : Hid (bitN l 3 = d.toNat / 2 ^ 4 % 2) := by
            refine Lib.hid ?_
            unfold bitN nth
            rw [show 3 / 8 = 0 from rfl, List.getD_eq_getElem?_getD, hd]
            rfl
          obtain ⟨m, hm⟩ : ∃ m : Nat, d.toNat / 16 % 2 = m := ⟨_, rfl⟩
          have hm1 : m ≤ 1 := by omega
          have HA1 : Hid (bits BinOp.and IntKind.u8 ((d.toNat : Int) / 16) 1 = (m : Int)) := by unfold Hid; rw [and1u _ (by omega) (by omega)]; omega
          have HA2 := Lib.hid (w64 (m : Int) (by omega) (by omega))
          have HA3 := Lib.hid (w64 ((m : Int) * 8) (by omega) (by omega))
          have HA4 : Hid (bits BinOp.or IntKind.i64 (S : Int) ((m : Int) * 8) = (S : Int) + (m : Int) * 8) := by
            unfold Hid
            have h2 := orS3 (S : Int) (m : Int) (by omega) (by have h1 := HSL.out; rw [← HS.out] at h1; exact_mod_cast h1) (by omega) (by omega)
            exact h2
          have HM := Lib.hid (show bitN l 3 = m by rw [HBN.out]; exact hm)
          have hS9 : (S : Int) < 512 := by have h1 := HSL.out; rw [← HS.out] at h1; have h2 : (2 : Nat) ^ 3 ≤ 512 := by decide
                                           omega
          clear hd hcell hm
          go_wp2
          simp only [HA1.out, HA2.out, HA3.out, HA4.out]
          go_round
          case rel => exact ⟨4, S + m * 8, m, by omega, by go_num, (by first | rfl | (congr 1; push_cast; omega)), rfl, by unfold Hid; rw [HS.out, show sumB l 4 = sumB l 3 + bitN l 3 * 2 ^ 3 from rfl, HM.out], Lib.hid (fun _ => HM.out.symm)⟩
          case measure => simp [intOf]
        · obtain ⟨b, off, d, rfl, _, hd, hcell⟩ := HR.out.at_ (k := 0) (by omega)
          have y0 : W2.cell? ⟨b, off, none⟩ = some (.int .u8 (d.toNat : Int)) := hcell
          have hdl := d.toNat_lt
          have HBN : Hid (bitN l 4 = d.toNat / 2 ^ 3 % 2) := by
            refine Lib.hid ?_
            unfold bitN nth
            rw [show 4 / 8 = 0 from rfl, List.getD_eq_getElem?_getD, hd]
            rfl
          obtain ⟨m, hm⟩ : ∃ m : Nat, d.toNat / 8 % 2 = m := ⟨_, rfl⟩
          have hm1 : m ≤ 1 := by omega
          have HA1 : Hid (bits BinOp.and IntKind.u8 ((d.toNat : Int) / 8) 1 = (m : Int)) := by unfold Hid; rw [and1u _ (by omega) (by omega)]; omega
          have HA2 := Lib.hid (w64 (m : Int) (by omega) (by omega))
          have HA3 := Lib.hid (w64 ((m : Int) * 16) (by omega) (by omega))
          have HA4 : Hid (bits BinOp.or IntKind.i64 (S : Int) ((m : Int) * 16) = (S : Int) + (m : Int) * 16) := by
            unfold Hid
            have h2 := orS4 (S : Int) (m : Int) (by omega) (by have h1 := HSL.out; rw [← HS.out] at h1; exact_mod_cast h1) (by omega) (by omega)
            exact h2
          have HM := Lib.hid (show bitN l 4 = m by rw [HBN.out]; exact hm)
          have hS9 : (S : Int) < 512 := by have h1 := HSL.out; rw [← HS.out] at h1; have h2 : (2 : Nat) ^ 4 ≤ 512 := by decide
                                           omega
          clear hd hcell hm
          go_wp2
          simp only [HA1.out, HA2.out, HA3.out, HA4.out]
          go_round
          case rel => exact ⟨5, S + m * 16, m, by omega, by go_num, (by first | rfl | (congr 1; push_cast; omega)), rfl, by unfold Hid; rw [HS.out, show sumB l 5 = sumB l 4 + bitN l 4 * 2 ^ 4 from rfl, HM.out], Lib.hid (fun _ => HM.out.symm)⟩
          case measure => simp [intOf]
        · obtain ⟨b, off, d, rfl, _, hd, hcell⟩ := HR.out.at_ (k := 0) (by omega)
          have y0 : W2.cell? ⟨b, off, none⟩ = some (.int .u8 (d.toNat : Int)) := hcell
          have hdl := d.toNat_lt
          have HBN : Hid (bitN l 5 = d.toNat / 2 ^ 2 % 2) := by
            refine Lib.hid ?_
            unfold bitN nth
            rw [show 5 / 8 = 0 from rfl, List.getD_eq_getElem?_getD, hd]
            rfl
          obtain ⟨m, hm⟩ : ∃ m : Nat, d.toNat / 4 % 2 = m := ⟨_, rfl⟩
          have hm1 : m ≤ 1 := by omega
          have HA1 : Hid (bits BinOp.and IntKind.u8 ((d.toNat : Int) / 4) 1 = (m : Int)) := by unfold Hid; rw [and1u _ (by omega) (by omega)]; omega
          have HA2 := Lib.hid (w64 (m : Int) (by omega) (by omega))
          have HA3 := Lib.hid (w64 ((m : Int) * 32) (by omega) (by omega))
          have HA4 : Hid (bits BinOp.or IntKind.i64 (S : Int) ((m : Int) * 32) = (S : Int) + (m : Int) * 32) := by
            unfold Hid
            have h2 := orS5 (S : Int) (m : Int) (by omega) (by have h1 := HSL.out; rw [← HS.out] at h1; exact_mod_cast h1) (by omega) (by omega)
            exact h2
          have HM := Lib.hid (show bitN l 5 = m by rw [HBN.out]; exact hm)
          have hS9 : (S : Int) < 512 := by have h1 := HSL.out; rw [← HS.out] at h1; have h2 : (2 : Nat) ^ 5 ≤ 512 := by decide
                                           omega
          clear hd hcell hm
          go_wp2
          simp only [HA1.out, HA2.out, HA3.out, HA4.out]
          go_round
          case rel => exact ⟨6, S + m * 32, m, by omega, by go_num, (by first | rfl | (congr 1; push_cast; omega)), rfl, by unfold Hid; rw [HS.out, show sumB l 6 = sumB l 5 + bitN l 5 * 2 ^ 5 from rfl, HM.out], Lib.hid (fun _ => HM.out.symm)⟩
          case measure => simp [intOf]
        · obtain ⟨b, off, d, rfl, _, hd, hcell⟩ := HR.out.at_ (k := 0) (by omega)
          have y0 : W2.cell? ⟨b, off, none⟩ = some (.int .u8 (d.toNat : Int)) := hcell
          have hdl := d.toNat_lt
          have HBN : Hid (bitN l 6 = d.toNat / 2 ^ 1 % 2) := by
            refine Lib.hid ?_
            unfold bitN nth
            rw [show 6 / 8 = 0 from rfl, List.getD_eq_getElem?_getD, hd]
            rfl
          obtain ⟨m, hm⟩ : ∃ m : Nat, d.toNat / 2 % 2 = m := ⟨_, rfl⟩
          have hm1 : m ≤ 1 := by omega
          have HA1 : Hid (bits BinOp.and IntKind.u8 ((d.toNat : Int) / 2) 1 = (m : Int)) := by unfold Hid; rw [and1u _ (by omega) (by omega)]; omega
          have HA2 := Lib.hid (w64 (m : Int) (by omega) (by omega))
          have HA3 := Lib.hid (w64 ((m : Int) * 64) (by omega) (by omega))
          have HA4 : Hid (bits BinOp.or IntKind.i64 (S : Int) ((m : Int) * 64) = (S : Int) + (m : Int) * 64) := by
            unfold Hid
            have h2 := orS6 (S : Int) (m : Int) (by omega) (by have h1 := HSL.out; rw [← HS.out] at h1; exact_mod_cast h1) (by omega) (by omega)
            exact h2
          have HM := Lib.hid (show bitN l 6 = m by rw [HBN.out]; exact hm)
          have hS9 : (S : Int) < 512 := by have h1 := HSL.out; rw [← HS.out] at h1; have h2 : (2 : Nat) ^ 6 ≤ 512 := by decide
                                           omega
          clear hd hcell hm
          go_wp2
          simp only [HA1.out, HA2.out, HA3.out, HA4.out]
          go_round
          case rel => exact ⟨7, S + m * 64, m, by omega, by go_num, (by first | rfl | (congr 1; push_cast; omega)), rfl, by unfold Hid; rw [HS.out, show sumB l 7 = sumB l 6 + bitN l 6 * 2 ^ 6 from rfl, HM.out], Lib.hid (fun _ => HM.out.symm)⟩
          case measure => simp [intOf]
        · obtain ⟨b, off, d, rfl, _, hd, hcell⟩ := HR.out.at_ (k := 0) (by omega)
          have y0 : W2.cell? ⟨b, off, none⟩ = some (.int .u8 (d.toNat : Int)) := hcell
          have hdl := d.toNat_lt
          have HBN : Hid (bitN l 7 = d.toNat / 2 ^ 0 % 2) := by
            refine Lib.hid ?_
            unfold bitN nth
            rw [show 7 / 8 = 0 from rfl, List.getD_eq_getElem?_getD, hd]
            rfl
          obtain ⟨m, hm⟩ : ∃ m : Nat, d.toNat / 1 % 2 = m := ⟨_, rfl⟩
          have hm1 : m ≤ 1 := by omega
          have HA1 : Hid (bits BinOp.and IntKind.u8 ((d.toNat : Int)) 1 = (m : Int)) := by unfold Hid; rw [and1u _ (by omega) (by omega)]; omega
          have HA2 := Lib.hid (w64 (m : Int) (by omega) (by omega))
          have HA3 := Lib.hid (w64 ((m : Int) * 128) (by omega) (by omega))
          have HA4 : Hid (bits BinOp.or IntKind.i64 (S : Int) ((m : Int) * 128) = (S : Int) + (m : Int) * 128) := by
            unfold Hid
            have h2 := orS7 (S : Int) (m : Int) (by omega) (by have h1 := HSL.out; rw [← HS.out] at h1; exact_mod_cast h1) (by omega) (by omega)
            exact h2
          have HM := Lib.hid (show bitN l 7 = m by rw [HBN.out]; exact hm)
          have hS9 : (S : Int) < 512 := by have h1 := HSL.out; rw [← HS.out] at h1; have h2 : (2 : Nat) ^ 7 ≤ 512 := by decide
                                           omega
          clear hd hcell hm
          go_wp2
          simp only [HA1.out, HA2.out, HA3.out, HA4.out]
          go_round
          case rel => exact ⟨8, S + m * 128, m, by omega, by go_num, (by first | rfl | (congr 1; push_cast; omega)), rfl, by unfold Hid; rw [HS.out, show sumB l 8 = sumB l 7 + bitN l 7 * 2 ^ 7 from rfl, HM.out], Lib.hid (fun _ => HM.out.symm)⟩
          case measure => simp [intOf]
        · obtain ⟨b, off, d, rfl, _, hd, hcell⟩ := HR.out.at_ (k := 1) (by omega)
          have y0 : W2.cell? ⟨b, off + 1, none⟩ = some (.int .u8 (d.toNat : Int)) := hcell
          have hdl := d.toNat_lt
          have HBN : Hid (bitN l 8 = d.toNat / 2 ^ 7 % 2) := by
            refine Lib.hid ?_
            unfold bitN nth
            rw [show 8 / 8 = 1 from rfl, List.getD_eq_getElem?_getD, hd]
            rfl
          obtain ⟨m, hm⟩ : ∃ m : Nat, d.toNat / 128 % 2 = m := ⟨_, rfl⟩
          have hm1 : m ≤ 1 := by omega
          have HA1 : Hid (bits BinOp.and IntKind.u8 ((d.toNat : Int) / 128) 1 = (m : Int)) := by unfold Hid; rw [and1u _ (by omega) (by omega)]; omega
          have HA2 := Lib.hid (w64 (m : Int) (by omega) (by omega))
          have HA3 := Lib.hid (w64 ((m : Int) * 256) (by omega) (by omega))
          have HA4 : Hid (bits BinOp.or IntKind.i64 (S : Int) ((m : Int) * 256) = (S : Int) + (m : Int) * 256) := by
            unfold Hid
            have h2 := orS8 (S : Int) (m : Int) (by omega) (by have h1 := HSL.out; rw [← HS.out] at h1; exact_mod_cast h1) (by omega) (by omega)
            exact h2
          have HM := Lib.hid (show bitN l 8 = m by rw [HBN.out]; exact hm)
          have hS9 : (S : Int) < 512 := by have h1 := HSL.out; rw [← HS.out] at h1; have h2 : (2 : Nat) ^ 8 ≤ 512 := by decide
                                           omega
          clear hd hcell hm
          go_wp2
          simp only [HA1.out, HA2.out, HA3.out, HA4.out]
          go_round
          case rel => exact ⟨9, S + m * 256, m, by omega, by go_num, (by first | rfl | (congr 1; push_cast; omega)), rfl, by unfold Hid; rw [HS.out, show sumB l 9 = sumB l 8 + bitN l 8 * 2 ^ 8 from rfl, HM.out], Lib.hid (fun _ => HM.out.symm)⟩
          case measure => simp [intOf]
      · obtain ⟨jj, hjj⟩ : ∃ jj, 8 * n - u = jj := ⟨_, rfl⟩
        have hj2 : j = jj := by omega
        have HJ := Lib.hid hjj
        have HJJ := Lib.hid hj2
        have hnl : ¬ ((j : Int) < 8 * (n : Int) - (u : Int)) := by omega
        have HLL := Lib.hid (HL.out (by omega))
        clear hlt hj hjj hj2
        have HD : Hid (8 * l.length - u = j) := by rw [HLN.out]; exact Lib.hid (HJ.out.trans HJJ.out.symm)
        by_cases h1 : L = 1
        rotate_left
        · have p3 : ((L : Int) == 1) = false := beq_eq_false_iff_ne.2 (by omega)
          have HG2 := Lib.hid (gd_no (p := bitN l (8 * l.length - u - 1) = 1) (by rw [HD.out, ← HLL.out]; exact h1))
          go_wp2_with fail
          refine (need_no _).mono ?_
          rintro e W3 ⟨rfl, rfl⟩
          go_wp2
          exact ⟨rfl, PO.mkNo (by simp only [usQ, HN1.out, HQ.out, HG.out, HG2.out, Option.bind_some, Option.bind_none]) HB.out⟩
        have p3 : ((L : Int) == 1) = true := by rw [h1]; rfl
        have HG2 := Lib.hid (gd_yes (p := bitN l (8 * l.length - u - 1) = 1) (by rw [HD.out, ← HLL.out]; exact h1))
        clear h1
        go_wp2_with fail
        refine (need_yes _).mono ?_
        rintro e W3 ⟨rfl, rfl⟩
        go_wp2
        go_ret
        exact PO.mk (x := sumB l (8 * l.length - u)) (by simp only [usQ, HN1.out, HQ.out, HG.out, HG2.out, Option.bind_some]) (by rw [HD.out, ← HS.out]; rfl) HB.out
set_option maxHeartbeats 8000000 in
theorem purposes_any (v : EV) (w : World) (h : ElV w v) : Calls Try.prog 90 #[v.val] w (PO w (puQ v.el) fun d e w' => e = .returned (.bool d)) := by
  have E := Lib.hid h
  clear h
  go_enter Try.func90, Try.ntmps90
  go_upto_region 1 with (fail)
  refine wp_nm fun W0 hW0 => ?_
  have B : Hid (Below w.heap.size w W0) := by rw [← hW0]; exact Lib.hid (kp_alloc (Below.refl _ _) _)
  have Z : Hid (W0.heap[w.heap.size]? = some (.cells #[.int .u8 (v.tag.toNat : Int), .slice v.ba v.bn v.bc, .slice v.ra v.rn v.rc] 46)) := by rw [← hW0]; exact Lib.hid (has_new _ _)
  clear hW0
  obtain ⟨x0, x1, x2⟩ := cells_3 Z.out
  go_wp2_with fail
  refine (within_any v 48 48 rfl _ (E.out.below B.out)).mono ?_
  rintro e1 W1 hp
  cases hq : wiQ v.el 48 with
  | none =>
    obtain ⟨rfl, hb⟩ := hp.no hq
    go_wp2
    exact ⟨rfl, PO.mkNo (by simp only [puQ, Option.bind_some, Option.bind_none, nxQ, enQ, List.map_cons, List.map_nil, hq]) (kp_call B.out hb)⟩
  | some q1 =>
    obtain ⟨⟨r1, vs, rfl, hpl, rfl, hR, FAR1⟩, hb⟩ := hp.yes hq
    have HQ1 := Lib.hid hq
    clear hq hp
    have lt1Z := Nat.lt_of_lt_of_le (block_lt Z.out) hpl
    have lw1 : w.heap.size ≤ r1 := Nat.le_trans B.out.size hpl
    have F1 := Lib.hid FAR1
    clear FAR1
    replace B := Lib.hid (kp_call B.out hb)
    replace Z := Lib.hid (has_below Z.out hb)
    clear hb
    have R := Lib.hid hR
    clear hR hpl
    clear x0 x1 x2
    clear Z
    rcases vs with _ | ⟨v1, vs1⟩
    · skip
      go_wp2_with fail
      refine (cmore_any r1 [] _ _ R.out).mono ?_
      rintro e2 W2 ⟨rfl, rfl⟩
      go_wp2_with fail
      refine (need_no _).mono ?_
      rintro e3 W3 ⟨rfl, rfl⟩
      go_wp2
      exact ⟨rfl, PO.mkNo (by simp only [puQ, Option.bind_some, Option.bind_none, nxQ, enQ, List.map_cons, List.map_nil, HQ1.out]) B.out⟩
    have hmr := cmore_any r1 (v1 :: vs1) _ _ R.out
    rw [show decide (0 < (v1 :: vs1).length) = true by simp] at hmr
    go_wp2_with fail
    refine hmr.mono ?_
    rintro e2 W2 ⟨rfl, rfl⟩
    clear hmr
    go_wp2_with fail
    refine (need_yes _).mono ?_
    rintro e3 W3 ⟨rfl, rfl⟩
    have HP : Hid (puQ v.el = puG ((v1 :: vs1).map EV.el) false) := Lib.hid (by simp only [puQ, HQ1.out, Option.bind_some, List.map_cons])
    have HR := Lib.hid R.out
    have HBB := Lib.hid B.out
    obtain ⟨us, hus⟩ : ∃ us, v1 :: vs1 = us := ⟨_, rfl⟩
    rw [hus] at HP HR
    clear R B F1 HQ1 hus
    go_wp2_with fail
    go_loopw [4] (fun s wl => ∃ (d : Bool) (ys : List EV), s = .bool d ∧ Hid (RowP wl W0.heap.size r1 ys) ∧ Hid (Below w.heap.size w wl) ∧ Hid (puQ v.el = puG (ys.map EV.el) d)) (fun _ wl => boxLen r1 wl)
    case atStart => exact ⟨false, us, rfl, HR, HBB, HP⟩
    case round =>
      obtain ⟨d, ys, rfl, R, B, HP⟩ := hrel
      rcases ys with _ | ⟨y, ys⟩
      · go_wp2_with fail
        refine (cmore_any r1 [] _ _ R.out).mono ?_
        rintro e W4 ⟨rfl, rfl⟩
        go_wp2
        go_ret
        exact PO.mk (x := d) (by rw [HP.out]; rfl) rfl B.out
      have hmr := cmore_any r1 (y :: ys) _ _ R.out
      rw [show decide (0 < (y :: ys).length) = true by simp] at hmr
      have HBX := Lib.hid R.out.box
      go_wp2_with fail
      refine hmr.mono ?_
      rintro e W4 ⟨rfl, rfl⟩
      clear hmr
      go_wp2_with fail
      refine (cnext_any r1 y ys _ _ R.out).mono ?_
      rintro e W5 ⟨rfl, hR, hE, hg⟩
      replace B := Lib.hid (kp_grown B.out hg (by omega))
      replace R := Lib.hid hR
      have X1 := Lib.hid hE
      clear hR hE hg
      go_wp2_with fail
      refine (coid_any y _ X1.out.vv).mono ?_
      rintro e W6 hp
      cases hq : odQ y.el with
      | none =>
        obtain ⟨rfl, hb⟩ := hp.no hq
        go_wp2
        exact ⟨rfl, PO.mkNo (by rw [HP.out]; simp only [List.map_cons, puG, hq, Option.bind_none]) (kp_call B.out hb)⟩
      | some l =>
        obtain ⟨⟨A1, n1, c1, rfl, ho1⟩, hb⟩ := hp.yes hq
        replace B := Lib.hid (kp_call B.out hb)
        replace R := Lib.hid (R.out.below hb)
        have HQ := Lib.hid hq
        have O1 := Lib.hid ho1
        have hl1 := ho1.len
        rw [List.length_map, Nat.mul_one] at hl1
        have HL1 := Lib.hid hl1
        have hcap := ho1.cap
        have hn1 : n1 ≤ 9223372036854775807 := by unfold maxLen at hcap; omega
        clear ho1 hl1 hcap hq hb hp X1
        obtain ⟨b, hb⟩ : ∃ b, decide (l = codeO) = b := ⟨_, rfl⟩
        have HD := Lib.hid hb
        clear hb
        go_wp2_with fail
        refine (uequal_any A1 _ n1 9 c1 9 l codeO b HD.out _ (O1.out.reads.alloc _) (read_new (by rfl)) HL1.out rfl hn1 (by omega)).mono ?_
        rintro e W7 ⟨rfl, hb⟩
        replace hb := kp_call (kp_alloc (Below.refl _ _) _) hb
        replace B := Lib.hid (kp_call B.out hb)
        replace R := Lib.hid (R.out.below hb)
        clear hb O1
        have HN : Hid (puQ v.el = puG (ys.map EV.el) (d || b)) := Lib.hid (by rw [HP.out]; simp only [List.map_cons, puG, HQ.out, Option.bind_some, HD.out])
        have HBY := Lib.hid R.out.box
        cases b with
        | true =>
          go_wp2
          go_roundw
          case rel => exact ⟨true, ys, rfl, R, B, by rw [show (true : Bool) = (d || true) by simp]; exact HN⟩
          case measure => rw [HBX.out, HBY.out]; simp
        | false =>
          go_wp2
          go_roundw
          case rel => exact ⟨d, ys, rfl, R, B, by rw [show d = (d || false) by simp]; exact HN⟩
          case measure => rw [HBX.out, HBY.out]; simp
end Go.Proofs.Ytomolfdcdmncoaa
namespace Go.Proofs.Ytomolfdcdmncoaa
open Go.RowKit Go
set_option linter.unusedVariables false
set_option linter.unusedSimpArgs false
set_option maxRecDepth 100000
/-- A certificate's cells: what the extensions don't turn, and what they do. -/
def xtC (l : List Value) (x : Xt) : Array Value := (l ++ ([.bool x.ca, .int .i64 x.path, .int .i64 x.usage, .bool x.code] : List Value)).toArray
theorem set_app (l m : List Value) (k j : Nat) (u : Value) (h : l.length = k) : ((l ++ m).toArray).setIfInBounds (k + j) u = (l ++ m.set j u).toArray := by
  subst h
  simp [List.setIfInBounds_toArray, List.set_append_right]
section
variable {l : List Value} (x : Xt)
theorem xtC_ca (hl : l.length = 20) (b : Bool) : (xtC l x).setIfInBounds 20 (.bool b) = xtC l { x with ca := b } := set_app l _ 20 0 _ hl
theorem xtC_path (hl : l.length = 20) (b : Int) : (xtC l x).setIfInBounds 21 (.int .i64 b) = xtC l { x with path := b } := set_app l _ 20 1 _ hl
theorem xtC_usage (hl : l.length = 20) (b : Int) : (xtC l x).setIfInBounds 22 (.int .i64 b) = xtC l { x with usage := b } := set_app l _ 20 2 _ hl
theorem xtC_code (hl : l.length = 20) (b : Bool) : (xtC l x).setIfInBounds 23 (.bool b) = xtC l { x with code := b } := set_app l _ 20 3 _ hl
end
theorem xtC_get {l : List Value} (hl : l.length = 20) (x : Xt) : (xtC l x)[20]? = some (.bool x.ca) ∧ (xtC l x)[21]? = some (.int .i64 x.path) ∧ (xtC l x)[22]? = some (.int .i64 x.usage) ∧ (xtC l x)[23]? = some (.bool x.code) := by
  refine ⟨?_, ?_, ?_, ?_⟩ <;> (unfold xtC; rw [List.getElem?_toArray, List.getElem?_append_right (by omega), hl]; rfl)
/-- What a call answers that panics where there is nothing to tell, and turns one block. -/
def GO {α : Type} (w : World) (q : Nat) (o : Option α) (R : α → Ending → World → Prop) (e : Ending) (w' : World) : Prop := (match o with
  | none => e = .panicked [flt]
  | some x => R x e w') ∧ w.grownBy w' (some q)
section
variable {α : Type} {w w' : World} {q : Nat} {o : Option α} {x : α} {R : α → Ending → World → Prop} {e : Ending}
theorem GO.no (hp : GO w q o R e w') (h : o = none) : e = .panicked [flt] ∧ w.grownBy w' (some q) := by subst h; exact hp
theorem GO.yes (hp : GO w q o R e w') (h : o = some x) : R x e w' ∧ w.grownBy w' (some q) := by subst h; exact hp
theorem GO.mkNo (h : o = none) (hb : w.grownBy w' (some q)) : GO w q o R (.panicked [flt]) w' := by subst h; exact ⟨rfl, hb⟩
theorem GO.mk (h : o = some x) (hr : R x e w') (hb : w.grownBy w' (some q)) : GO w q o R e w' := by subst h; exact ⟨hr, hb⟩
end
theorem grown_b {w w' : World} (h : Below w.heap.size w w') (q : Nat) : w.grownBy w' (some q) := grown_of_below h (Nat.le_refl _) _
theorem xtC_cell {W : World} {pc : Nat} {l : List Value} {x : Xt} (hl : l.length = 20) (h : W.heap[pc]? = some (.cells (xtC l x) 33)) :
    W.cell? ⟨pc, 20, none⟩ = some (.bool x.ca) ∧ W.cell? ⟨pc, 21, none⟩ = some (.int .i64 x.path) ∧ W.cell? ⟨pc, 22, none⟩ = some (.int .i64 x.usage) ∧ W.cell? ⟨pc, 23, none⟩ = some (.bool x.code) := by
  obtain ⟨h0, h1, h2, h3⟩ := xtC_get hl x
  refine ⟨?_, ?_, ?_, ?_⟩ <;> (rw [Lib.cell_of_heap h]; assumption)
theorem xtC_free {W : World} {pc : Nat} {l : List Value} {x : Xt} (h : W.heap[pc]? = some (.cells (xtC l x) 33)) (k : Nat) : W.frozen? ⟨pc, k, none⟩ = false := Lib.frozen_of_heap h k
abbrev XR (l : List Value) (pc : Nat) (x' : Xt) (e : Ending) (w' : World) : Prop := e = .returned (.tuple #[]) ∧ w'.heap[pc]? = some (.cells (xtC l x') 33)
set_option maxHeartbeats 8000000 in
theorem extension_any (pc : Nat) (l : List Value) (hl : l.length = 20) (x : Xt) (A : Option Addr) (n c : Nat) (xs : List Nat) (crit : Bool) (BA : Option Addr) (bn bc : Nat) (body : List UInt8) (w : World) (hc : w.heap[pc]? = some (.cells (xtC l x) 33)) (hR : ReadR w A (xs.map u64v)) (hn : xs.length = n) (hnc : n ≤ c) (hcm : c ≤ maxLen) (hB : RB w BA bn body) (hbc : bn ≤ bc) (hbcc : bc ≤ maxLen) (hb1 : bn ≤ 1000000) :
    Calls Try.prog 81 #[.pointer (some ⟨pc, 0, none⟩), .slice A n c, .bool crit, .slice BA bn bc] w (GO w pc (exQ x xs crit body) (XR l pc)) := by
  have HC := Lib.hid hc
  have HS := Lib.hid (fun W (hb : Below w.heap.size w W) => single_any BA bn bc body W (hB.below hb) hbc hbcc hb1)
  clear hB
  by_cases h4 : n = 4
  rotate_left
  · have HQ : Hid (∀ cr, exQ x xs cr body = if cr then none else some x) := by
      refine Lib.hid fun cr => ?_
      have hne : ∀ a, ¬ xs = [2, 5, 29, a] := fun a h => h4 (by rw [← hn, h]; rfl)
      unfold exQ
      rw [if_neg (hne _), if_neg (hne _), if_neg (hne _)]
    have p1 : ((n : Int) == 4) = false := beq_eq_false_iff_ne.2 (by omega)
    clear hR hc hl
    go_enter Try.func81, Try.ntmps81
    cases crit with
    | true =>
      go_wp2_with fail
      refine (need_no _).mono ?_
      rintro e9 W9 ⟨rfl, rfl⟩
      go_wp2
      exact ⟨rfl, GO.mkNo (HQ.out true) (grown_b (Below.refl _ _) pc)⟩
    | false =>
      go_wp2_with fail
      refine (need_yes _).mono ?_
      rintro e9 W9 ⟨rfl, rfl⟩
      go_wp2
      go_end0
      exact GO.mk (x := x) (HQ.out false) ⟨rfl, has_below HC.out (Below.refl _ _)⟩ (grown_b (Below.refl _ _) pc)
  obtain ⟨a0, a1, a2, a3, rfl⟩ : ∃ a0 a1 a2 a3, xs = [a0, a1, a2, a3] := by
    match xs, hn with
    | [a, b, c, d], _ => exact ⟨a, b, c, d, rfl⟩
    | [], h => simp at h; omega
    | [_], h => simp at h; omega
    | [_, _], h => simp at h; omega
    | [_, _, _], h => simp at h; omega
    | _ :: _ :: _ :: _ :: _ :: _, h => simp at h; omega
  obtain ⟨ab, off, rfl, hab, c3⟩ := hR.at_ (j := 3) (u := u64v a3) (by simp)
  have HC3 := Lib.hid c3
  have HT : Hid (ReadR w (some ⟨ab, off, none⟩) ([a0, a1, a2].map u64v)) := Lib.hid (fun _ => ⟨ab, off, rfl, hab, fun j u hu => by
    obtain ⟨b', off', e, _, hcc⟩ := hR.at_ (j := j) (u := u) (by
      match j, hu with
      | 0, hu => simpa using hu
      | 1, hu => simpa using hu
      | 2, hu => simpa using hu
      | j + 3, hu => simp at hu)
    injection e with e
    injection e with e1 e2
    subst e1 e2
    exact hcc⟩)
  have p1 : ((n : Int) == 4) = true := by rw [h4]; rfl
  obtain ⟨dd, hdd⟩ : ∃ dd, decide ([a0, a1, a2] = [2, 5, 29]) = dd := ⟨_, rfl⟩
  have HD := Lib.hid hdd
  have q1 : (3 : Int) ≤ (c : Int) := by omega
  have q2 : 3 ≤ c := by omega
  have q3 : (3 : Int) < (n : Int) := by omega
  have q4 : 3 < n := by omega
  clear hdd c3 hR hab hn h4
  go_enter Try.func81, Try.ntmps81
  go_wp2_with fail
  refine (uequal_any (some ⟨ab, off, none⟩) _ 3 3 c 3 [a0, a1, a2] [2, 5, 29] dd HD.out _ (HT.out.alloc _) (read_new (by rfl)) rfl rfl (by omega) (by omega)).mono ?_
  rintro e1 W1 ⟨rfl, hb⟩
  have B := Lib.hid (kp_call (kp_alloc (Below.refl _ _) _) hb)
  clear hb
  cases dd with
  | false =>
    have HQ : Hid (∀ cr, exQ x [a0, a1, a2, a3] cr body = if cr then none else some x) := by
      refine Lib.hid fun cr => ?_
      have h9 := of_decide_eq_false HD.out
      have hne : ∀ a, ¬ [a0, a1, a2, a3] = [2, 5, 29, a] := fun a h => h9 (by injection h with h1 h; injection h with h2 h; injection h with h3 h; subst h1 h2 h3; rfl)
      unfold exQ
      rw [if_neg (hne _), if_neg (hne _), if_neg (hne _)]
    cases crit with
    | true =>
      go_wp2_with fail
      refine (need_no _).mono ?_
      rintro e9 W9 ⟨rfl, rfl⟩
      go_wp2
      exact ⟨rfl, GO.mkNo (HQ.out true) (grown_b B.out pc)⟩
    | false =>
      go_wp2_with fail
      refine (need_yes _).mono ?_
      rintro e9 W9 ⟨rfl, rfl⟩
      go_wp2
      go_end0
      exact GO.mk (x := x) (HQ.out false) ⟨rfl, has_below HC.out B.out⟩ (grown_b B.out pc)
  | true =>
    have hz := of_decide_eq_true HD.out
    injection hz with z0 hz
    injection hz with z1 hz
    injection hz with z2 _
    subst z0 z1 z2
    have y3 : W1.cell? ⟨ab, off + 3, none⟩ = some (.int .u64 (a3 : Int)) := kp_cell B.out HC3.out
    by_cases e19 : a3 = 19
    · have t1 : ((a3 : Int) == 19) = true := by rw [e19]; rfl
      have HX : Hid (exQ x [2, 5, 29, a3] crit body = (siQ body).bind fun y => (coQ y).bind fun p => some { x with ca := p.1, path := p.2 }) := Lib.hid (by unfold exQ; rw [if_pos (by rw [e19])])
      clear e19
      go_wp2_with fail
      refine (HS.out _ B.out).mono ?_
      rintro e2 W2 hp
      cases hq : siQ body with
      | none =>
        obtain ⟨rfl, hb⟩ := hp.no hq
        go_wp2
        exact ⟨rfl, GO.mkNo (by rw [HX.out, hq]; rfl) (grown_b (kp_call B.out hb) pc)⟩
      | some y =>
        obtain ⟨⟨v, rfl, rfl, hE, hf⟩, hb⟩ := hp.yes hq
        replace B := Lib.hid (kp_call B.out hb)
        have HQ := Lib.hid hq
        have X1 := Lib.hid hE
        clear hq hb hp hE hf y3
        go_wp2_with fail
        refine (constraints_any v _ X1.out.vv).mono ?_
        rintro e3 W3 hp
        cases hq : coQ v.el with
        | none =>
          obtain ⟨rfl, hb⟩ := hp.no hq
          go_wp2
          exact ⟨rfl, GO.mkNo (by rw [HX.out, HQ.out, Option.bind_some, hq]; rfl) (grown_b (kp_call B.out hb) pc)⟩
        | some u =>
          obtain ⟨rfl, hb⟩ := hp.yes hq
          replace B := Lib.hid (kp_call B.out hb)
          have HQ2 := Lib.hid hq
          clear hq hb hp X1
          have HC3 := Lib.hid (has_below HC.out B.out)
          obtain ⟨k0, k1, k2, k3⟩ := xtC_cell hl HC3.out
          have f0 := xtC_free HC3.out
          have g0 := f0 20
          have g1 := f0 21
          clear f0
          go_wp2
          go_end0
          refine GO.mk (x := { x with ca := u.1, path := u.2 }) (by rw [HX.out, HQ.out, Option.bind_some, HQ2.out]; rfl) ⟨rfl, ?_⟩ (grown_tr (grown_b B.out pc) (grown_tr (grown_one _ _ _ _) (grown_one _ _ _ _)))
          have h1 := heap_set_at W3 pc 20 _ _ _ (.bool u.1) HC3.out
          rw [xtC_ca _ hl] at h1
          have h2 := heap_set_at _ pc 21 _ _ _ (.int .i64 u.2) h1
          rw [xtC_path _ hl] at h2
          exact h2
    by_cases e15 : a3 = 15
    · have t1 : ((a3 : Int) == 19) = false := by rw [e15]; rfl
      have t2 : ((a3 : Int) == 15) = true := by rw [e15]; rfl
      have HX : Hid (exQ x [2, 5, 29, a3] crit body = (siQ body).bind fun y => (usQ y).bind fun u => some { x with usage := (u : Int) }) := Lib.hid (by unfold exQ; rw [if_neg (by simp [e15]), if_pos (by rw [e15])])
      clear e15 e19
      go_wp2_with fail
      refine (HS.out _ B.out).mono ?_
      rintro e2 W2 hp
      cases hq : siQ body with
      | none =>
        obtain ⟨rfl, hb⟩ := hp.no hq
        go_wp2
        exact ⟨rfl, GO.mkNo (by rw [HX.out, hq]; rfl) (grown_b (kp_call B.out hb) pc)⟩
      | some y =>
        obtain ⟨⟨v, rfl, rfl, hE, hf⟩, hb⟩ := hp.yes hq
        replace B := Lib.hid (kp_call B.out hb)
        have HQ := Lib.hid hq
        have X1 := Lib.hid hE
        clear hq hb hp hE hf y3
        go_wp2_with fail
        refine (usage_any v _ X1.out.vv).mono ?_
        rintro e3 W3 hp
        cases hq : usQ v.el with
        | none =>
          obtain ⟨rfl, hb⟩ := hp.no hq
          go_wp2
          exact ⟨rfl, GO.mkNo (by rw [HX.out, HQ.out, Option.bind_some, hq]; rfl) (grown_b (kp_call B.out hb) pc)⟩
        | some u =>
          obtain ⟨rfl, hb⟩ := hp.yes hq
          replace B := Lib.hid (kp_call B.out hb)
          have HQ2 := Lib.hid hq
          clear hq hb hp X1
          have HC3 := Lib.hid (has_below HC.out B.out)
          obtain ⟨k0, k1, k2, k3⟩ := xtC_cell hl HC3.out
          have f0 := xtC_free HC3.out
          have g0 := f0 22
          clear f0
          go_wp2
          go_end0
          refine GO.mk (x := { x with usage := (u : Int) }) (by rw [HX.out, HQ.out, Option.bind_some, HQ2.out]; rfl) ⟨rfl, ?_⟩ (grown_tr (grown_b B.out pc) (grown_one _ _ _ _))
          have h1 := heap_set_at W3 pc 22 _ _ _ (.int .i64 (u : Int)) HC3.out
          rw [xtC_usage _ hl] at h1
          exact h1
    by_cases e37 : a3 = 37
    · have t1 : ((a3 : Int) == 19) = false := by rw [e37]; rfl
      have t2 : ((a3 : Int) == 15) = false := by rw [e37]; rfl
      have t3 : ((a3 : Int) == 37) = true := by rw [e37]; rfl
      have HX : Hid (exQ x [2, 5, 29, a3] crit body = (siQ body).bind fun y => (puQ y).bind fun d => some { x with code := d }) := Lib.hid (by unfold exQ; rw [if_neg (by simp [e37]), if_neg (by simp [e37]), if_pos (by rw [e37])])
      clear e15 e19 e37
      go_wp2_with fail
      refine (HS.out _ B.out).mono ?_
      rintro e2 W2 hp
      cases hq : siQ body with
      | none =>
        obtain ⟨rfl, hb⟩ := hp.no hq
        go_wp2
        exact ⟨rfl, GO.mkNo (by rw [HX.out, hq]; rfl) (grown_b (kp_call B.out hb) pc)⟩
      | some y =>
        obtain ⟨⟨v, rfl, rfl, hE, hf⟩, hb⟩ := hp.yes hq
        replace B := Lib.hid (kp_call B.out hb)
        have HQ := Lib.hid hq
        have X1 := Lib.hid hE
        clear hq hb hp hE hf y3
        go_wp2_with fail
        refine (purposes_any v _ X1.out.vv).mono ?_
        rintro e3 W3 hp
        cases hq : puQ v.el with
        | none =>
          obtain ⟨rfl, hb⟩ := hp.no hq
          go_wp2
          exact ⟨rfl, GO.mkNo (by rw [HX.out, HQ.out, Option.bind_some, hq]; rfl) (grown_b (kp_call B.out hb) pc)⟩
        | some u =>
          obtain ⟨rfl, hb⟩ := hp.yes hq
          replace B := Lib.hid (kp_call B.out hb)
          have HQ2 := Lib.hid hq
          clear hq hb hp X1
          have HC3 := Lib.hid (has_below HC.out B.out)
          obtain ⟨k0, k1, k2, k3⟩ := xtC_cell hl HC3.out
          have f0 := xtC_free HC3.out
          have g0 := f0 23
          clear f0
          go_wp2
          go_end0
          refine GO.mk (x := { x with code := u }) (by rw [HX.out, HQ.out, Option.bind_some, HQ2.out]; rfl) ⟨rfl, ?_⟩ (grown_tr (grown_b B.out pc) (grown_one _ _ _ _))
          have h1 := heap_set_at W3 pc 23 _ _ _ (.bool u) HC3.out
          rw [xtC_code _ hl] at h1
          exact h1
    have t1 : ((a3 : Int) == 19) = false := beq_eq_false_iff_ne.2 (by omega)
    have t2 : ((a3 : Int) == 15) = false := beq_eq_false_iff_ne.2 (by omega)
    have t3 : ((a3 : Int) == 37) = false := beq_eq_false_iff_ne.2 (by omega)
    have HQ : Hid (∀ cr, exQ x [2, 5, 29, a3] cr body = if cr then none else some x) := by
      refine Lib.hid fun cr => ?_
      unfold exQ
      rw [if_neg (by simpa using e19), if_neg (by simpa using e15), if_neg (by simpa using e37)]
    cases crit with
    | true =>
      go_wp2_with fail
      refine (need_no _).mono ?_
      rintro e9 W9 ⟨rfl, rfl⟩
      go_wp2
      exact ⟨rfl, GO.mkNo (HQ.out true) (grown_b B.out pc)⟩
    | false =>
      go_wp2_with fail
      refine (need_yes _).mono ?_
      rintro e9 W9 ⟨rfl, rfl⟩
      go_wp2
      go_end0
      exact GO.mk (x := x) (HQ.out false) ⟨rfl, has_below HC.out B.out⟩ (grown_b B.out pc)
end Go.Proofs.Ytomolfdcdmncoaa
namespace Go.Proofs.Ytomolfdcdmncoaa
open Go.RowKit Go
set_option linter.unusedVariables false
set_option linter.unusedSimpArgs false
set_option maxRecDepth 100000
def MapS (w : World) (B : Nat) (seen : List (List UInt8)) : Prop := ∃ es clk, w.heap[B]? = some (.map es clk) ∧ (∀ m ∈ es.toList, ∃ z ∈ seen, m.key = .string (strOf z) ∧ m.val = .bool true) ∧ (∀ z ∈ seen, ∃ m ∈ es.toList, m.key = .string (strOf z))
theorem MapS.same {w w' : World} {B : Nat} {s : List (List UInt8)} (h : MapS w B s) (hw : w'.heap[B]? = w.heap[B]?) : MapS w' B s := by
  obtain ⟨es, clk, h1, h2⟩ := h
  exact ⟨es, clk, hw.trans h1, h2⟩
theorem MapS.lt {w : World} {B : Nat} {s : List (List UInt8)} (h : MapS w B s) : B < w.heap.size := by
  obtain ⟨es, clk, h1, h2⟩ := h
  exact block_lt h1
theorem MapS.below {w w' : World} {B : Nat} {s : List (List UInt8)} (h : MapS w B s) (hb : Below w.heap.size w w') : MapS w' B s := h.same (hb.block B h.lt)
theorem MapS.new (w : World) : MapS (w.alloc (.map #[] 0)) w.heap.size [] := ⟨#[], 0, has_new w _, (fun m hm => by simp at hm), (fun z hz => by cases hz)⟩
theorem strOf_inj {a b : List UInt8} (h : strOf a = strOf b) : a = b := by
  have := congrArg ByteArray.toList h
  rwa [strOf_toList, strOf_toList] at this
theorem str_beq (x z : List UInt8) : (strOf x == strOf z) = decide (x = z) := by
  rw [show (strOf x == strOf z) = (x.toArray == z.toArray) from rfl, Bool.eq_iff_iff, beq_iff_eq, decide_eq_true_iff]
  exact ⟨fun h => by simpa using congrArg Array.toList h, fun h => by rw [h]⟩
theorem und_sb : Try.prog.underlying 127 = some (.map 9 4) := Try.underlying127
theorem sfind (x : List UInt8) : ∀ (es : List MapEntry) (i : Nat), (∀ m ∈ es, ∃ z : List UInt8, m.key = .string (strOf z) ∧ m.val = .bool true) →
    ∃ r : Option (Nat × Value), Instr.findNow .string (.string (strOf x)) es i = some r ∧ (match r with | some (_, u) => u = .bool true ∧ ∃ m ∈ es, m.key = .string (strOf x) | none => ∀ m ∈ es, m.key ≠ .string (strOf x))
  | [], i, _ => ⟨none, rfl, fun m hm => by cases hm⟩
  | m :: es, i, h => by
    obtain ⟨z, hk, hv⟩ := h m List.mem_cons_self
    by_cases e : strOf x = strOf z
    · refine ⟨some (i, m.val), ?_, hv, m, List.mem_cons_self, by rw [hk, e]⟩
      simp only [Instr.findNow, hk, Instr.sameNow]
      rw [str_beq, decide_eq_true (strOf_inj e)]
    · obtain ⟨r, hr, hm⟩ := sfind x es (i + 1) (fun q hq => h q (List.mem_cons_of_mem _ hq))
      refine ⟨r, ?_, ?_⟩
      · simp only [Instr.findNow, hk, Instr.sameNow]
        rw [str_beq, decide_eq_false (fun h => e (by rw [h]))]
        exact hr
      · cases r with
        | some p => exact ⟨hm.1, by obtain ⟨q, hq, hqk⟩ := hm.2; exact ⟨q, List.mem_cons_of_mem _ hq, hqk⟩⟩
        | none =>
          intro q hq e'
          rcases List.mem_cons.1 hq with hq | hq
          · subst hq
            rw [hk] at e'
            injection e' with e'
            exact e e'.symm
          · exact hm q hq e'
theorem sfindKey (x : List UInt8) (w : World) (es : List MapEntry) (h : ∀ m ∈ es, ∃ z : List UInt8, m.key = .string (strOf z) ∧ m.val = .bool true) :
    ∃ r : Option (Nat × Value), (Instr.findKey 9 (.string (strOf x)) es).run Try.prog w = .ok r w ∧ (match r with | some (_, u) => u = .bool true ∧ ∃ m ∈ es, m.key = .string (strOf x) | none => ∀ m ∈ es, m.key ≠ .string (strOf x)) := by
  obtain ⟨r, hr, hm⟩ := sfind x es 0 h
  refine ⟨r, ?_, hm⟩
  unfold Instr.findKey
  simp only [Sem.run_bind, run_underlying Try.underlying9, Result.andThen_ok, hr, Sem.run_pure]
theorem skey_ok (s : ByteArray) : ∀ w b, (Instr.checkKey b 10000 9 (.string s)).run Try.prog w = .ok () w := by
  intro w b
  cases b <;> kernel_rfl
theorem slook {w : World} {B : Nat} {seen : List (List UInt8)} (hM : MapS w B seen) (x : List UInt8) : (Instr.lookup 127 (.map (some B)) (.string (strOf x)) false).run Try.prog w = .ok (.bool (decide (x ∈ seen))) w := by
  obtain ⟨es, clk, hb, h1, h2⟩ := hM
  obtain ⟨r, hr, hq⟩ := sfindKey x w es.toList (fun m hm => by
    obtain ⟨z, hz, hk, hv⟩ := h1 m hm
    exact ⟨z, hk, hv⟩)
  have hg : (getObj B).run Try.prog w = .ok (.map es clk) w := by simp [getObj, Sem.run, hb]
  have hz : (zeroValue 4).run Try.prog w = .ok (.bool false) w := by kernel_rfl
  unfold Instr.lookup
  simp only [Sem.run_bind, run_underlying und_sb, Result.andThen_ok, hg, Sem.run_pure, skey_ok, hr]
  cases r with
  | some p =>
    obtain ⟨i, u⟩ := p
    obtain ⟨rfl, m, hm, hk⟩ := hq
    obtain ⟨z, hz2, hk2, _⟩ := h1 m hm
    rw [hk] at hk2
    injection hk2 with hk2
    rw [decide_eq_true (by rw [strOf_inj hk2]; exact hz2)]
    rfl
  | none =>
    rw [decide_eq_false (fun hmem => by
      obtain ⟨m, hm, hk⟩ := h2 x hmem
      exact hq m hm hk)]
    simp only [Sem.run_bind, hz, Result.andThen_ok, Sem.run_pure]
    rfl
def putS (w : World) (B : Nat) (es : Array MapEntry) (clk : Nat) (x v : Value) : World := { w with heap := w.heap.setIfInBounds B (.map (es.push { key := x, val := v, born := clk }) (clk + 1)) }
theorem supd {w : World} {B : Nat} {seen : List (List UInt8)} (hM : MapS w B seen) (x : List UInt8) (hn : x ∉ seen) : ∃ w', (Instr.mapUpdate 127 (.map (some B)) (.string (strOf x)) (.bool true)).run Try.prog w = .ok () w' ∧ MapS w' B (x :: seen) ∧ w.grownBy w' (some B) := by
  have hlt := hM.lt
  obtain ⟨es, clk, hb, h1, h2⟩ := hM
  obtain ⟨r, hr, hq⟩ := sfindKey x w es.toList (fun m hm => by
    obtain ⟨z, hz, hk, hv⟩ := h1 m hm
    exact ⟨z, hk, hv⟩)
  have hnn : r = none := by
    cases r with
    | none => rfl
    | some p =>
      exfalso
      obtain ⟨_, m, hm, hk⟩ := hq
      obtain ⟨z, hz2, hk2, _⟩ := h1 m hm
      rw [hk] at hk2
      injection hk2 with hk2
      exact hn (strOf_inj hk2 ▸ hz2)
  subst hnn
  have hg : (getObj B).run Try.prog w = .ok (.map es clk) w := by simp [getObj, Sem.run, hb]
  have hst : ∀ o, (setObj B o).run Try.prog w = .ok () { w with heap := w.heap.setIfInBounds B o } := fun o => by simp [setObj, Sem.run, hb]
  have hnew : (putS w B es clk (.string (strOf x)) (.bool true)).heap[B]? = some (.map (es.push { key := .string (strOf x), val := .bool true, born := clk }) (clk + 1)) := by
    show (w.heap.setIfInBounds B _)[B]? = _
    rw [Array.getElem?_setIfInBounds_self_of_lt hlt]
  refine ⟨putS w B es clk (.string (strOf x)) (.bool true), ?_, ⟨_, _, hnew, ?_, ?_⟩, ⟨rfl, rfl, rfl, by simp [putS], fun k hk hne => by
    show (w.heap.setIfInBounds B _)[k]? = _
    rw [Array.getElem?_setIfInBounds_ne (fun e => hne (by rw [e]))]⟩⟩
  · unfold Instr.mapUpdate
    simp only [Sem.run_bind, run_underlying und_sb, Result.andThen_ok, hg, skey_ok, hr, hst]
    rfl
  · intro m hm
    rw [Array.toList_push] at hm
    rcases List.mem_append.1 hm with hm | hm
    · obtain ⟨z, hz, hk⟩ := h1 m hm
      exact ⟨z, List.mem_cons_of_mem _ hz, hk⟩
    · rw [List.mem_singleton.1 hm]
      exact ⟨x, List.mem_cons_self, rfl, rfl⟩
  · intro z hz
    rw [Array.toList_push]
    rcases List.mem_cons.1 hz with rfl | hz
    · exact ⟨_, List.mem_append_right _ (List.mem_singleton.2 rfl), rfl⟩
    · obtain ⟨m, hm, hk⟩ := h2 z hz
      exact ⟨m, List.mem_append_left _ hm, hk⟩
theorem wpList_slook {ops : Array Oper} {rest : List Oper} {o : Oper} {a : Act} {w : World} {Q : Exit → Act → World → Prop} (hgd : o.guard = none) (T : TypeId) (m k : Operand) (ho : o.op = .lookup T m k false) (B : Nat) (hm : a.eval m = .map (some B)) (x : Value) (hx : a.eval k = x) (v : Value) (hrun : (Instr.lookup T (.map (some B)) x false).run Try.prog w = .ok v w)
    (h : wpList Try.prog ops Q rest (a.put o.dst v) w) : wpList Try.prog ops Q (o :: rest) a w := by
  refine wpList_plain hgd fun K hK => ?_
  unfold Oper.wp execOp
  simp only [ho, Sem.run_bind, Sem.run_pure, Result.andThen_ok, hm, hx, hrun]
  exact hK _ _ h
theorem wpList_supd {ops : Array Oper} {rest : List Oper} {o : Oper} {a : Act} {w w' : World} {Q : Exit → Act → World → Prop} (hgd : o.guard = none) (T : TypeId) (m k v : Operand) (ho : o.op = .mapUpdate T m k v) (hd : o.dst = none) (B : Nat) (hm : a.eval m = .map (some B)) (x : Value) (hx : a.eval k = x) (u : Value) (hv : a.eval v = u) (hrun : (Instr.mapUpdate T (.map (some B)) x u).run Try.prog w = .ok () w')
    (h : wpList Try.prog ops Q rest a w') : wpList Try.prog ops Q (o :: rest) a w := by
  refine wpList_plain hgd fun K hK => ?_
  unfold Oper.wp execOp
  simp only [ho, Sem.run_bind, Sem.run_pure, Result.andThen_ok, hm, hx, hv, hrun]
  exact hK _ _ (by rw [hd]; exact h)
/-! ### What stays -/
theorem kind_neM {W : World} {A : Option Addr} {e : TypeId} {q : Nat} {es : Array MapEntry} {clk : Nat} (hk : ∀ g, blk A = some g → ∃ cur, W.heap[g]? = some (.cells cur e (0, 0))) (hq : W.heap[q]? = some (.map es clk)) : blk A = none ∨ blk A ≠ some q := by
  cases hA : blk A with
  | none => exact .inl rfl
  | some g =>
    right
    intro hh
    injection hh with hh
    subst hh
    obtain ⟨cur, h1⟩ := hk _ hA
    rw [h1] at hq
    injection hq with hq
    cases hq
section
variable {w w' W W' : World} {base p : Nat} {v : EV} {vs : List EV}
theorem ElO.keptM (h : ElO w base v) {q : Nat} (hg : w.grownBy w' (some q)) {s : List (List UInt8)} (hm : MapS w q s) : ElO w' base v := by
  obtain ⟨es, clk, hq, _⟩ := hm
  exact ⟨h.b.kept hg (kind_neM h.b.kind hq), h.r.kept hg (kind_neM h.r.kind hq), h.bl, h.rl, h.tag⟩
theorem RowP.keptM (h : RowP W base p vs) {q : Nat} (hg : W.grownBy W' (some q)) {s : List (List UInt8)} (hm : MapS W q s) : RowP W' base p vs := by
  obtain ⟨es, clk, hq, hx⟩ := hm
  obtain ⟨A, n, c, A0, n0, c0, xs, h⟩ := h
  have h0 := kind_neM h.own.kind hq
  have hne : p ≠ q := by
    intro e
    subst e
    rw [h.at_] at hq
    injection hq with hq
    cases hq
  refine ⟨A, n, c, A0, n0, c0, xs, h.own.kept hg h0, h.sub, h.rd.keptK hg ?_, h.len, h.nc, h.cc, has_grown h.at_ hg hne, fun v hv => (h.els v hv).keptM hg ⟨es, clk, hq, hx⟩⟩
  cases hA : blk A with
  | none => exact .inl rfl
  | some g => right; rw [← h.sub g hA]; exact h0.resolve_left (by rw [h.sub g hA]; simp)
theorem OwnR.keptM {A : Option Addr} {n c k : Nat} {e : TypeId} {xs : List Value} (h : OwnR w base e k A n c xs) {q : Nat} (hg : w.grownBy w' (some q)) {s : List (List UInt8)} (hm : MapS w q s) : OwnR w' base e k A n c xs := by
  obtain ⟨es, clk, hq, _⟩ := hm
  exact h.kept hg (kind_neM h.kind hq)
theorem OwnR.keptK {A : Option Addr} {n c k : Nat} {e : TypeId} {xs : List Value} (h : OwnR w base e k A n c xs) {q : Nat} (hg : w.grownBy w' (some q)) {cs : Array Value} {t : TypeId} {mk : Nat × Nat} (hq : w.heap[q]? = some (.cells cs t mk)) (ht : e ≠ t) : OwnR w' base e k A n c xs :=
  h.kept hg (kind_ne h.kind hq ht)
end
/-- All blocks but two stay. -/
structure G2 (q1 q2 : Nat) (w w' : World) : Prop where
  os : w'.os = w.os
  tape : w'.tape = w.tape
  output : w'.output = w.output
  size : w.heap.size ≤ w'.heap.size
  block : ∀ k, k < w.heap.size → k ≠ q1 → k ≠ q2 → w'.heap[k]? = w.heap[k]?
section
variable {q1 q2 q : Nat} {w W W' w0 : World}
theorem G2.refl (q1 q2 : Nat) (w : World) : G2 q1 q2 w w := ⟨rfl, rfl, rfl, Nat.le_refl _, fun _ _ _ _ => rfl⟩
theorem G2.call (h : G2 q1 q2 w W) (hb : Below W.heap.size W W') : G2 q1 q2 w W' := ⟨hb.os.trans h.os, hb.tape.trans h.tape, hb.output.trans h.output, Nat.le_trans h.size hb.size, fun k hk h1 h2 => (hb.block k (Nat.lt_of_lt_of_le hk h.size)).trans (h.block k hk h1 h2)⟩
theorem G2.grown (h : G2 q1 q2 w W) (hg : W.grownBy W' (some q)) (hq : q = q1 ∨ q = q2 ∨ w.heap.size ≤ q) : G2 q1 q2 w W' := ⟨hg.os.trans h.os, hg.tape.trans h.tape, hg.output.trans h.output, Nat.le_trans h.size hg.size, fun k hk h1 h2 => (hg.block k (Nat.lt_of_lt_of_le hk h.size) (fun e => by injection e with e; omega)).trans (h.block k hk h1 h2)⟩
theorem G2.below (h : G2 q1 q2 w W) (hb : Below w0.heap.size w0 w) (h1 : w0.heap.size ≤ q1) (h2 : w0.heap.size ≤ q2) : Below w0.heap.size w0 W := ⟨h.os.trans hb.os, h.tape.trans hb.tape, h.output.trans hb.output, Nat.le_trans hb.size h.size, fun k hk => (h.block k (Nat.lt_of_lt_of_le hk hb.size) (by omega) (by omega)).trans (hb.block k hk)⟩
theorem G2.has (h : G2 q1 q2 w W) {g : Nat} {o : Obj} (hg : w.heap[g]? = some o) (h1 : g ≠ q1) (h2 : g ≠ q2) : W.heap[g]? = some o := (h.block g (block_lt hg) h1 h2).trans hg
theorem G2.ownR (h : G2 q1 q2 w W) {base n c k : Nat} {e : TypeId} {A : Option Addr} {vs : List Value} (ho : OwnR w base e k A n c vs) (h1 : blk A = none ∨ blk A ≠ some q1) (h2 : blk A = none ∨ blk A ≠ some q2) : OwnR W base e k A n c vs := by
  refine ⟨ho.1, ?_⟩
  rcases ho.2 with h3 | ⟨g, cap, cur, h3, h4, h5, h6⟩
  · exact .inl h3
  · refine .inr ⟨g, cap, cur, h3, h4, ?_, h6⟩
    injection h3 with h3 _ _
    subst h3
    rw [h.block g (block_lt h5) (fun e => by rcases h1 with h1 | h1 <;> simp [blk, e] at h1) (fun e => by rcases h2 with h2 | h2 <;> simp [blk, e] at h2)]
    exact h5
theorem G2.ownB (h : G2 q1 q2 w W) {base n c : Nat} {A : Option Addr} {bs : List UInt8} (ho : OwnB w base A n c bs) {cs1 cs2 : Array Value} {t1 t2 : TypeId} (hq1 : w.heap[q1]? = some (.cells cs1 t1)) (hq2 : w.heap[q2]? = some (.cells cs2 t2)) (ht1 : 5 ≠ t1) (ht2 : 5 ≠ t2) : OwnB W base A n c bs :=
  h.ownR ho.row (kind_ne ho.kind hq1 ht1) (kind_ne ho.kind hq2 ht2)
end
theorem RowP.g2 {q1 q2 base p : Nat} {w W : World} {vs : List EV} (h : RowP w base p vs) (hg : G2 q1 q2 w W) {cs1 cs2 : Array Value} {t1 t2 : TypeId} (hq1 : w.heap[q1]? = some (.cells cs1 t1)) (hq2 : w.heap[q2]? = some (.cells cs2 t2)) (ht1 : 5 ≠ t1) (ht2 : 5 ≠ t2) (hu1 : 46 ≠ t1) (hu2 : 46 ≠ t2) (hp1 : p ≠ q1) (hp2 : p ≠ q2) : RowP W base p vs := by
  obtain ⟨A, n, c, A0, n0, c0, xs, h⟩ := h
  have h1 := kind_ne h.own.kind hq1 hu1
  have h2 := kind_ne h.own.kind hq2 hu2
  refine ⟨A, n, c, A0, n0, c0, xs, hg.ownR h.own h1 h2, h.sub, fun hn => ?_, h.len, h.nc, h.cc, hg.has h.at_ hp1 hp2, fun v hv => ⟨hg.ownB (h.els v hv).b hq1 hq2 ht1 ht2, hg.ownB (h.els v hv).r hq1 hq2 ht1 ht2, (h.els v hv).bl, (h.els v hv).rl, (h.els v hv).tag⟩⟩
  obtain ⟨b, off, e, hlt, hc⟩ := h.rd hn
  have hb0 := h.sub b (by rw [e]; rfl)
  refine ⟨b, off, e, Nat.lt_of_lt_of_le hlt hg.size, fun j u hu => ?_⟩
  refine (World.cell?_of_block (a := ⟨b, off + j, none⟩) (hg.block b hlt ?_ ?_)).trans (hc j u hu)
  · intro e2; rcases h1 with h1 | h1
    · rw [hb0] at h1; cases h1
    · exact h1 (by rw [hb0, e2])
  · intro e2; rcases h2 with h2 | h2
    · rw [hb0] at h2; cases h2
    · exact h2 (by rw [hb0, e2])
end Go.Proofs.Ytomolfdcdmncoaa

/-
  der: All.
-/
import Derived.Test.YtamkbedbkjndgaaDrH
import Derived.Test.YtamkbedbkjndgaaDrE
import Derived.Test.YtamkbedbkjndgaaFam
namespace Go.Proofs.Ytamkbedbkjndgaa
open Go.RowKit Go
set_option linter.unusedVariables false
set_option maxRecDepth 100000
theorem el_row : RowT 26 43 3 56 (.agg #[.int .u8 0, .slice none 0 0, .slice none 0 0]) := ⟨Try.underlying26, by kernel_rfl, rfl, by decide⟩
/-- An element in memory: its tag, its body's slice, its bytes' slice, and what they read as. -/
structure EV where
  tag : UInt8
  ba : Option Addr
  bn : Nat
  bc : Nat
  ra : Option Addr
  rn : Nat
  rc : Nat
  body : List UInt8
  raw : List UInt8
def EV.cells (v : EV) : List Value := [.int .u8 (v.tag.toNat : Int), .slice v.ba v.bn v.bc, .slice v.ra v.rn v.rc]
def EV.own (v : EV) : List Own1 := [(v.ba, v.bn, v.bc, v.body), (v.ra, v.rn, v.rc, v.raw)]
def Far (x y : Own1) : Prop := blk x.1 = none ∨ blk x.1 ≠ blk y.1
/-- Elements with memory of their own, each slice by itself. -/
structure Evs (w : World) (base : Nat) (vs : List EV) : Prop where
  own : ∀ x ∈ vs.flatMap EV.own, OwnB w base x.1 x.2.1 x.2.2.1 x.2.2.2
  far : (vs.flatMap EV.own).Pairwise Far
  tag : ∀ v ∈ vs, v.raw.getD 0 0 = v.tag
theorem Evs.nil (w : World) (base : Nat) : Evs w base [] := ⟨fun x hx => by simp at hx, by simp, fun v hv => by cases hv⟩
theorem Evs.below {w w' : World} {base : Nat} {vs : List EV} (h : Evs w base vs) {B : Nat} (hb : Below B w w') (hB : w.heap.size ≤ B) : Evs w' base vs := ⟨fun x hx => (h.own x hx).below hb hB, h.far, h.tag⟩
theorem Evs.far_ {w w' : World} {base g : Nat} {vs : List EV} (h : Evs w base vs) (hg : w.grownBy w' (some g)) (hlt : g < base) : Evs w' base vs := ⟨fun x hx => (h.own x hx).far hg hlt, h.far, h.tag⟩
theorem Evs.lower {w : World} {base base' : Nat} {vs : List EV} (h : Evs w base vs) (hb : base' ≤ base) : Evs w base' vs := ⟨fun x hx => (h.own x hx).lower hb, h.far, h.tag⟩
theorem Evs.drewN {w : World} {base : Nat} {vs : List EV} (h : Evs w base vs) (k : Nat) : Evs (w.drewN k) base vs := ⟨fun x hx => (h.own x hx).drewN k, h.far, h.tag⟩
/-- One more, made in a later world. -/
theorem Evs.snoc {w w' : World} {base : Nat} {vs : List EV} (h : Evs w base vs) (hb : Below w.heap.size w w') (hbase : base ≤ w.heap.size) (v : EV) (h1 : OwnB w' w.heap.size v.ba v.bn v.bc v.body) (h2 : OwnB w' w.heap.size v.ra v.rn v.rc v.raw) (hne : blk v.ba = none ∨ blk v.ba ≠ blk v.ra) (ht : v.raw.getD 0 0 = v.tag) : Evs w' base (vs ++ [v]) := by
  refine ⟨fun x hx => ?_, ?_, fun u hu => ?_⟩
  · simp only [List.flatMap_append, List.flatMap_cons, List.flatMap_nil, List.append_nil, List.mem_append] at hx
    rcases hx with hx | hx
    · exact (h.own x hx).below hb (Nat.le_refl _)
    · simp only [EV.own, List.mem_cons, List.not_mem_nil, or_false] at hx
      rcases hx with rfl | rfl
      · exact h1.lower hbase
      · exact h2.lower hbase
  · simp only [List.flatMap_append, List.flatMap_cons, List.flatMap_nil, List.append_nil]
    rw [List.pairwise_append]
    refine ⟨h.far, ?_, fun x hx y hy => ?_⟩
    · simp only [EV.own, List.pairwise_cons, List.mem_cons, List.not_mem_nil, or_false]
      exact ⟨fun y hy => by rw [hy]; exact hne, by simp⟩
    · have hx := h.own x hx
      simp only [EV.own, List.mem_cons, List.not_mem_nil, or_false] at hy
      rcases hy with rfl | rfl
      · exact blk_ne hx h1 (Nat.le_refl _)
      · exact blk_ne hx h2 (Nat.le_refl _)
  · rcases List.mem_append.1 hu with hu | hu
    · exact h.tag u hu
    · rw [List.mem_singleton.1 hu]; exact ht
def AllPost (w : World) (bs : List UInt8) (e : Ending) (w' : World) : Prop :=
  (match allQ bs with
    | none => e = .returned (.tuple #[.slice none 0 0, .int .i64 9])
    | some l => ∃ (A : Option Addr) (n c : Nat) (vs : List EV), e = .returned (.tuple #[.slice A n c, .int .i64 0]) ∧ vs.map (fun v => (v.raw, v.body)) = l ∧ OwnR w' w.heap.size 43 3 A n c (vs.flatMap EV.cells) ∧ Evs w' w.heap.size vs) ∧ Below w.heap.size w w'
theorem cells_flat (l : List PV) : (l.flatMap PV.cells).length = l.length * 2 := by
  induction l with
  | nil => rfl
  | cons x l ih => simp only [List.flatMap_cons, List.length_append, ih, List.length_cons]; simp [PV.cells]; omega
theorem ecells_flat (l : List EV) : (l.flatMap EV.cells).length = l.length * 3 := by
  induction l with
  | nil => rfl
  | cons x l ih => simp only [List.flatMap_cons, List.length_append, ih, List.length_cons]; simp [EV.cells]; omega
theorem flat_get (ps : List PV) (p : PV) (j : Nat) (h : ps[j]? = some p) : (ps.flatMap PV.cells)[j * 2]? = some (.slice p.ra p.rn p.rc) ∧ (ps.flatMap PV.cells)[j * 2 + 1]? = some (.slice p.ba p.bn p.bc) := by
  induction ps generalizing j with
  | nil => simp at h
  | cons x r ih =>
    cases j with
    | zero =>
      simp at h
      subst h
      exact ⟨rfl, rfl⟩
    | succ k =>
      simp only [List.getElem?_cons_succ] at h
      have := ih k h
      simp only [List.flatMap_cons, PV.cells, List.cons_append, List.nil_append]
      rw [show (k + 1) * 2 = k * 2 + 1 + 1 by omega]
      simp only [List.getElem?_cons_succ]
      exact this
theorem all_no (A0 : Option Addr) (n0 c0 : Nat) (bs : List UInt8) (w : World) (hR0 : RB w A0 n0 bs) (hnc : n0 ≤ c0) (hn : n0 ≤ 1000000000) (hc : c0 ≤ 9223372036854775807) (h : allQ bs = none) :
    Calls Try.prog 10 #[.slice A0 n0 c0] w (AllPost w bs) := by
  have C : Hid (Calls Try.prog 32 #[.slice A0 n0 c0] w fun e w' => e = .returned (.tuple #[.slice none 0 0, .int .i64 9]) ∧ Below w.heap.size w w') := (list_any A0 n0 c0 bs w hR0 hnc hn hc).mono fun e w' hp => by
    unfold ListPost at hp; rw [h] at hp; exact hp
  have H := Lib.hid h
  clear h hR0
  go_enter Try.func10, Try.ntmps10
  go_wp2_with fail
  refine C.out.mono ?_
  rintro e w' ⟨rfl, hb⟩
  go_wp2
  go_ret2
  unfold AllPost
  rw [H.out]
  exact ⟨rfl, hb⟩
theorem all_yes (A0 : Option Addr) (n0 c0 : Nat) (bs : List UInt8) (w : World) (hR0 : RB w A0 n0 bs) (hnc : n0 ≤ c0) (hn : n0 ≤ 1000000000) (hc : c0 ≤ 9223372036854775807) (l : List (List UInt8 × List UInt8)) (h : allQ bs = some l) (hlen : l.length ≤ 1000000000) :
    Calls Try.prog 10 #[.slice A0 n0 c0] w (AllPost w bs) := by
  have C : Hid (Calls Try.prog 32 #[.slice A0 n0 c0] w fun e w' => (∃ (A : Option Addr) (n c : Nat) (ps : List PV), e = .returned (.tuple #[.slice A n c, .int .i64 0]) ∧ ps.map (fun p => (p.raw, p.body)) = l ∧ (∀ p ∈ ps, p.Ok w n0) ∧ OwnR w' w.heap.size 60 2 A n c (ps.flatMap PV.cells)) ∧ Below w.heap.size w w') := (list_any A0 n0 c0 bs w hR0 hnc hn hc).mono fun e w' hp => by
    unfold ListPost at hp; rw [h] at hp; exact hp
  have H := Lib.hid h
  clear h hR0
  go_enter Try.func10, Try.ntmps10
  go_wp2_with fail
  refine C.out.mono ?_
  rintro e w1 ⟨⟨A, n, c, ps, rfl, hps, hok, hown⟩, hb1⟩
  have hnp : n = ps.length := by have := hown.len; rw [cells_flat] at this; omega
  have hnl : ps.length = l.length := by rw [← hps]; simp
  have HNP := Lib.hid hnp
  have HPS := Lib.hid hps
  have HOK := Lib.hid hok
  have HOW := Lib.hid hown
  have hn2 : n ≤ 1000000000 := by omega
  have hs1 := hb1.size
  clear hnp hnl hps hok hown
  go_wp2_with (refine wpList_mkR el_row _ _ rfl rfl _ _ _ _ n rfl rfl rfl rfl (by unfold maxLen; omega) (by omega) ?_)
  intro w2 hmk hg2
  have hb12 : Below w1.heap.size w1 w2 := (Below.refl _ _).grown hg2 (Nat.le_refl _) (by intro g hg; cases hg)
  have hgl : w1.heap.size < w2.heap.size := (hmk.blk_lt rfl).2
  go_wp2
  go_loopw [22] (fun i wl => ∃ (j : Nat) (vs : List EV) (tail : List Value), j ≤ n ∧ i = .int .i64 j ∧ OwnR wl w1.heap.size 43 3 (some ⟨w1.heap.size, 0, none⟩) n n (vs.flatMap EV.cells ++ tail) ∧ Evs wl (w1.heap.size + 1) vs ∧ Below w1.heap.size w1 wl ∧ Hid (vs.map (fun v => (v.raw, v.body)) = (ps.take j).map (fun p => (p.raw, p.body)))) (fun i _ => n - (intOf i).toNat)
  case atStart => exact ⟨0, [], _, Nat.zero_le _, rfl, hmk, Evs.nil _ _, hb12, rfl⟩
  case round =>
    obtain ⟨j, vs, tail, hj, rfl, hrow, hev, hbl, HV⟩ := hrel
    clear hmk hb12 hg2 hgl
    by_cases hlt : j < n
    · obtain ⟨p, hp⟩ : ∃ p, ps[j]? = some p := ⟨_, List.getElem?_eq_getElem (by rw [← HNP.out]; exact hlt)⟩
      obtain ⟨hg0, hg1⟩ := flat_get ps p j hp
      obtain ⟨b, off, rfl, hb, hc0⟩ := HOW.out.reads.at_ hg0
      obtain ⟨b', off', e', _, hc1⟩ := HOW.out.reads.at_ hg1
      cases e'
      have d0 := kp_cell hbl hc0
      have d1 := kp_cell hbl hc1
      rw [← Nat.add_assoc] at d1
      have hpk := HOK.out p (List.mem_of_getElem? hp)
      have HP := Lib.hid hp
      clear hc0 hc1 hp hg0 hg1
      obtain ⟨⟨pa, rn, rc, ba, bn, bc, raw, body⟩, hpe⟩ : ∃ q, q = p := ⟨_, rfl⟩
      subst hpe
      obtain ⟨hr, hbd, h2, hle, hble, _, _⟩ := hpk
      simp only at *
      obtain ⟨pb, po, tag, rfl, hpb, htag, hct⟩ := hr.at_ (k := 0) (by omega)
      have hct : w.cell? ⟨pb, po, none⟩ = some (.int .u8 (tag.toNat : Int)) := hct
      have hbw : Below w.heap.size w wr := hb1.trans (hbl.mono hs1)
      have CE := Lib.hid (elem_any pb po rn rc ba bn bc tag raw body (wr.alloc (.cells #[.slice (some ⟨pb, po, none⟩) rn rc, .slice ba bn bc] 60)) (hr.below (kp_alloc hbw _)) (by omega) (kp_cell (kp_alloc hbw _) hct) (hbd.below (kp_alloc hbw _)) (by omega) (by omega))
      have hsr := hbl.size
      have htg : raw.getD 0 0 = tag := by rw [List.getD_eq_getElem?_getD, htag]; rfl
      have HTG := Lib.hid htg
      have hgl := (hrow.blk_lt rfl).2
      have HRW := Lib.hid hrow
      clear hr hbd hct htag htg hrow
      go_wp2_with fail
      refine CE.out.mono ?_
      rintro e w4 ⟨A1, n1, c1, A2, n2, c2, rfl, ho1, ho2, hne, hb4⟩
      have hb14 : Below wr.heap.size wr w4 := kp_call (kp_alloc (Below.refl _ _) _) hb4
      have hrow4 := HRW.out.below hb14 (Nat.le_refl _)
      have hvl : vs.length = j := by
        have := congrArg List.length HV.out
        simp at this
        have h9 := HNP.out
        omega
      obtain ⟨x0, x1, x2, tl, rfl⟩ : ∃ x0 x1 x2 tl, tail = x0 :: x1 :: x2 :: tl := by
        have h9 := hrow4.len
        rw [List.length_append, ecells_flat, hvl] at h9
        match tail, h9 with
        | x0 :: x1 :: x2 :: tl, _ => exact ⟨x0, x1, x2, tl, rfl⟩
        | [], h9 => simp at h9; omega
        | [_], h9 => simp at h9; omega
        | [_, _], h9 => simp at h9; omega
      have hlc : (vs.flatMap EV.cells).length = j * 3 := by rw [ecells_flat, hvl]
      have hcl : ∀ i u, i < 3 → (x0 :: x1 :: x2 :: tl)[i]? = some u → w4.cell? ⟨w1.heap.size, j * 3 + i, none⟩ = some u := fun i u hi hu => by
        obtain ⟨b', off', e', _, hc⟩ := hrow4.reads.at_ (j := j * 3 + i) (u := u) (by rw [List.getElem?_append_right (by omega), hlc, Nat.add_sub_cancel_left]; exact hu)
        cases e'
        simpa using hc
      have e0 : w4.cell? ⟨w1.heap.size, j * 3, none⟩ = some x0 := hcl 0 x0 (by omega) rfl
      have e1 : (w4.setCell ⟨w1.heap.size, j * 3, none⟩ (.int .u8 (tag.toNat : Int))).cell? ⟨w1.heap.size, j * 3 + 1, none⟩ = some x1 := (World.cell?_setCell_other _ _ _ _ (by simp)).trans (hcl 1 x1 (by omega) rfl)
      have e2 : ((w4.setCell ⟨w1.heap.size, j * 3, none⟩ (.int .u8 (tag.toNat : Int))).setCell ⟨w1.heap.size, j * 3 + 1, none⟩ (.slice A1 n1 c1)).cell? ⟨w1.heap.size, j * 3 + 2, none⟩ = some x2 := (World.cell?_setCell_other _ _ _ _ (by simp)).trans ((World.cell?_setCell_other _ _ _ _ (by simp)).trans (hcl 2 x2 (by omega) rfl))
      have f0 := hrow4.free (j * 3)
      have f1 := hrow4.free (j * 3 + 1)
      have f2 := hrow4.free (j * 3 + 2)
      have hst := ((hrow4.stored (j * 3) (.int .u8 (tag.toNat : Int))).stored (j * 3 + 1) (.slice A1 n1 c1)).stored (j * 3 + 2) (.slice A2 n2 c2)
      have hse : (((vs.flatMap EV.cells ++ x0 :: x1 :: x2 :: tl).set (j * 3) (.int .u8 (tag.toNat : Int))).set (j * 3 + 1) (.slice A1 n1 c1)).set (j * 3 + 2) (.slice A2 n2 c2) = (vs ++ [(⟨tag, A1, n1, c1, A2, n2, c2, body, raw⟩ : EV)]).flatMap EV.cells ++ tl := by
        rw [← hlc, List.set_append_right _ _ (Nat.le_refl _), Nat.sub_self, List.set_append_right _ _ (by omega), Nat.add_sub_cancel_left, List.set_append_right _ _ (by omega), Nat.add_sub_cancel_left]
        simp [EV.cells]
      rw [hse] at hst
      have hev4 : Evs w4 (w1.heap.size + 1) (vs ++ [⟨tag, A1, n1, c1, A2, n2, c2, body, raw⟩]) := hev.snoc hb14 (by omega) _ (ho1.lower (by simp)) (ho2.lower (by simp)) hne HTG.out
      have hgr : w4.grownBy (((w4.setCell ⟨w1.heap.size, j * 3, none⟩ (.int .u8 (tag.toNat : Int))).setCell ⟨w1.heap.size, j * 3 + 1, none⟩ (.slice A1 n1 c1)).setCell ⟨w1.heap.size, j * 3 + 2, none⟩ (.slice A2 n2 c2)) (some w1.heap.size) := grown_tr (grown_tr (grown_one _ _ _ _) (grown_one _ _ _ _)) (grown_one _ _ _ _)
      have hbl5 : Below w1.heap.size w1 (((w4.setCell ⟨w1.heap.size, j * 3, none⟩ (.int .u8 (tag.toNat : Int))).setCell ⟨w1.heap.size, j * 3 + 1, none⟩ (.slice A1 n1 c1)).setCell ⟨w1.heap.size, j * 3 + 2, none⟩ (.slice A2 n2 c2)) := kp_set (kp_set (kp_set (hbl.trans (hb14.mono hsr)) (Nat.le_refl _)) (Nat.le_refl _)) (Nat.le_refl _)
      have HVN : Hid ((vs ++ [(⟨tag, A1, n1, c1, A2, n2, c2, body, raw⟩ : EV)]).map (fun v => (v.raw, v.body)) = (ps.take (j + 1)).map (fun p => (p.raw, p.body))) := by
        unfold Hid
        rw [List.take_add_one, HP.out, List.map_append, HV.out, List.map_append]
        rfl
      have HR := Lib.hid (And.intro hst (And.intro (hev4.far_ hgr (Nat.lt_succ_self _)) hbl5))
      clear hst hev4 hgr hbl5 hse hcl hlc hvl hrow4 ho1 ho2 hne
      go_wp2
      obtain ⟨r1, r2, r3⟩ := HR.out
      go_roundw
      case rel => exact ⟨j + 1, vs ++ [⟨tag, A1, n1, c1, A2, n2, c2, body, raw⟩], tl, by omega, by go_num, r1, r2, r3, HVN⟩
      case measure => simp [intOf]; omega
    · obtain rfl : j = n := by omega
      have htl : tail = [] := by
        have hvl : vs.length = j := by
          have := congrArg List.length HV.out
          simp at this
          have h9 := HNP.out
          omega
        have h9 := hrow.len
        rw [List.length_append, ecells_flat, hvl] at h9
        exact List.length_eq_zero_iff.1 (by omega)
      subst htl
      have HVN : Hid (vs.map (fun v => (v.raw, v.body)) = l) := by
        unfold Hid
        rw [HV.out, List.take_of_length_le (by rw [HNP.out]; exact Nat.le_refl _)]
        exact HPS.out
      rw [List.append_nil] at hrow
      go_wp2
      go_ret2
      unfold AllPost
      rw [H.out]
      exact ⟨⟨_, j, j, vs, rfl, HVN.out, hrow.lower hs1, hev.lower (by omega)⟩, hb1.trans (hbl.mono hs1)⟩
theorem allQ_len : ∀ (k : Nat) (bs : List UInt8) (l : List (List UInt8 × List UInt8)), bs.length ≤ k → allQ bs = some l → l.length ≤ bs.length
  | 0, bs, l, hk, h => by
    obtain rfl : bs = [] := List.length_eq_zero_iff.1 (by omega)
    rw [allQ_nil] at h
    cases h
    simp
  | k + 1, bs, l, hk, h => by
    by_cases hn : bs = []
    · subst hn
      rw [allQ_nil] at h
      cases h
      simp
    cases hq : splitQ bs with
    | none => rw [allQ_none hn hq] at h; cases h
    | some p =>
      obtain ⟨s, t⟩ := p
      rw [allQ_some hq] at h
      obtain ⟨l', h1, rfl⟩ := Option.map_eq_some_iff.1 h
      have hle := splitQ_le hq
      have ih := allQ_len k (bs.drop t) l' (by rw [List.length_drop]; omega) h1
      rw [List.length_drop] at ih
      simp; omega
theorem all_any (A0 : Option Addr) (n0 c0 : Nat) (bs : List UInt8) (w : World) (hR0 : RB w A0 n0 bs) (hnc : n0 ≤ c0) (hn : n0 ≤ 1000000000) (hc : c0 ≤ 9223372036854775807) :
    Calls Try.prog 10 #[.slice A0 n0 c0] w (AllPost w bs) := by
  cases h : allQ bs with
  | none => exact all_no A0 n0 c0 bs w hR0 hnc hn hc h
  | some l =>
    have := allQ_len _ bs _ (Nat.le_refl _) h
    rw [hR0.1] at this
    exact all_yes A0 n0 c0 bs w hR0 hnc hn hc l h (by omega)
end Go.Proofs.Ytamkbedbkjndgaa

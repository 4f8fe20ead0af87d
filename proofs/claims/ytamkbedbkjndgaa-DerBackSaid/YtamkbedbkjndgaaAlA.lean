/-
  der: the document's All.
-/
import Derived.Test.YtamkbedbkjndgaaDrM
import Derived.Test.YtamkbedbkjndgaaDrAp
namespace Go.Proofs.Ytamkbedbkjndgaa
open Go.RowKit Go
set_option linter.unusedVariables false
set_option linter.unusedSimpArgs false
set_option maxRecDepth 100000
theorem Evs.kept {w w' : World} {base base' nl cl : Nat} {L : Option Addr} {cs : List Value} {vs : List EV} (h : Evs w base vs) (hL : OwnR w base' 43 3 L nl cl cs) (hg : w.grownBy w' (blk L)) : Evs w' base vs :=
  ⟨fun x hx => (h.own x hx).kept hg ((h.own x hx).row.ne hL (by decide)), h.far, h.tag⟩
def sLen (v : Value) : Nat := match v with | .slice _ k _ => k | _ => 0
/-- What is left: of the bytes themselves, or a copy. -/
def RestR (w0 : World) (base : Nat) (A : Option Addr) (n c : Nat) (rest : List UInt8) (w : World) : Prop := (RB w0 A n rest ∧ Below w0.heap.size w0 w) ∨ OwnB w base A n c rest
theorem RestR.rb {w0 w : World} {base n c : Nat} {A : Option Addr} {rest : List UInt8} (h : RestR w0 base A n c rest w) : RB w A n rest := by
  rcases h with ⟨h, hb⟩ | h
  · exact h.below hb
  · exact h.rb
set_option maxHeartbeats 2000000 in
theorem rall_any (A0 : Option Addr) (n0 c0 : Nat) (bs : List UInt8) (w : World) (hR0 : RB w A0 n0 bs) (hnc : n0 ≤ c0) (hn : n0 ≤ 1000000000) (hc : c0 ≤ 9223372036854775807) :
    Calls Try.prog 11 #[.slice A0 n0 c0] w (AllPost w bs) := by
  have HR0 := Lib.hid hR0
  clear hR0
  go_enter Try.func11, Try.ntmps11
  go_wp2
  go_loopw [0, 4] (fun v u wl => ∃ (A1 : Option Addr) (n1 c1 : Nat) (rest : List UInt8) (A2 : Option Addr) (n2 c2 : Nat) (vs : List EV), v = .slice A1 n1 c1 ∧ u = .slice A2 n2 c2 ∧ RestR w w.heap.size A1 n1 c1 rest wl ∧ n1 ≤ c1 ∧ c1 ≤ 9223372036854775807 ∧ OwnR wl w.heap.size 43 3 A2 n2 c2 (vs.flatMap EV.cells) ∧ Evs wl w.heap.size vs ∧ Below w.heap.size w wl ∧ Hid (allQ bs = (allQ rest).map ((vs.map fun v => (v.raw, v.body)) ++ ·)) ∧ n2 + n1 ≤ n0) (fun v _ _ => sLen v)
  case atStart => exact ⟨A0, n0, c0, bs, none, 0, 0, [], rfl, rfl, .inl ⟨HR0.out, Below.refl _ _⟩, hnc, hc, OwnR.nil _ _ _ _, Evs.nil _ _, Below.refl _ _, (by unfold Hid; cases allQ bs <;> simp), by omega⟩
  case round =>
    obtain ⟨A1, n1, c1, rest, A2, n2, c2, vs, rfl, rfl, hrest, hnc1, hcc1, ho, hev, hb, HX, hcnt⟩ := hrel
    have hR1 := hrest.rb
    have hsz := hb.size
    by_cases h0 : n1 = 0
    · subst h0
      have hr : rest = [] := List.length_eq_zero_iff.1 hR1.1
      subst hr
      have HN : Hid (allQ bs = some (vs.map fun v => (v.raw, v.body))) := by unfold Hid; rw [HX.out, allQ_nil]; simp
      clear hR1 hrest
      go_wp2
      go_ret2
      unfold AllPost
      rw [HN.out]
      exact ⟨⟨A2, n2, c2, vs, rfl, rfl, ho, hev⟩, hb⟩
    have hne : rest ≠ [] := by rintro rfl; have := hR1.1; simp at this; omega
    have P := rparse_any A1 n1 c1 rest wr hR1 hnc1 (by omega) hcc1
    cases hq : splitQ rest with
    | none =>
      have HN : Hid (allQ bs = none) := by unfold Hid; rw [HX.out, allQ_none hne hq]; rfl
      have C : Hid (Calls Try.prog 34 #[.slice A1 n1 c1] wr fun e w' => e = .returned (.tuple #[.agg #[.int .u8 0, .slice none 0 0, .slice none 0 0], .slice none 0 0, .int .i64 9]) ∧ Below wr.heap.size wr w') := P.mono fun e w' hp => by
        unfold ParsePost at hp; rw [hq] at hp; exact hp
      have hpos : (0 : Int) < (n1 : Int) := by omega
      clear P hrest hR1 hq hne
      go_wp2_with fail
      refine C.out.mono ?_
      rintro e w3 ⟨rfl, hb3⟩
      go_wp2
      go_ret2
      unfold AllPost
      rw [HN.out]
      exact ⟨rfl, kp_alloc (kp_call hb hb3) _⟩
    | some p =>
      obtain ⟨s, t⟩ := p
      obtain ⟨hs2, hst, htn⟩ := splitQ_le hq
      rw [hR1.1] at htn
      have HNE : Hid (rest.getD 0 0 = (rest.take t).getD 0 0) := by
        unfold Hid
        rw [List.getD_eq_getElem?_getD, List.getD_eq_getElem?_getD, List.getElem?_take, if_pos (by omega)]
      have C : Hid (Calls Try.prog 34 #[.slice A1 n1 c1] wr fun e w' => (∃ A1 n1 c1 A2 n2 c2 A3 n3 c3, e = .returned (.tuple #[.agg #[.int .u8 ((rest.getD 0 0).toNat : Int), .slice A1 n1 c1, .slice A2 n2 c2], .slice A3 n3 c3, .int .i64 0]) ∧ OwnB w' wr.heap.size A1 n1 c1 ((rest.take t).drop s) ∧ OwnB w' wr.heap.size A2 n2 c2 (rest.take t) ∧ OwnB w' wr.heap.size A3 n3 c3 (rest.drop t) ∧
          (blk A1 = none ∨ blk A1 ≠ blk A2) ∧ (blk A1 = none ∨ blk A1 ≠ blk A3) ∧ (blk A2 = none ∨ blk A2 ≠ blk A3)) ∧ Below wr.heap.size wr w') := P.mono fun e w' hp => by
        unfold ParsePost at hp; rw [hq] at hp; exact hp
      have HN : Hid (allQ bs = (allQ (rest.drop t)).map (((vs.map fun v => (v.raw, v.body)) ++ [(rest.take t, (rest.take t).drop s)]) ++ ·)) := by
        unfold Hid
        rw [HX.out, allQ_some hq, Option.map_map]
        congr 1
        funext l
        simp
      have HL1 := Lib.hid hR1.1
      have hpos : (0 : Int) < (n1 : Int) := by omega
      clear P hrest hR1 hq hne HX
      obtain ⟨tag, htag⟩ : ∃ tag, rest.getD 0 0 = tag := ⟨_, rfl⟩
      rw [htag] at C HNE
      have HTG := Lib.hid htag
      clear htag
      have HO := Lib.hid ho
      have HE := Lib.hid hev
      clear ho hev
      go_wp2_with fail
      refine C.out.mono ?_
      rintro e w3 ⟨⟨X1, m1, k1, X2, m2, k2, X3, m3, k3, rfl, o1, o2, o3, f1, f2, f3⟩, hb3⟩
      have hb03 := kp_call hb hb3
      have hmax : n2 + 1 ≤ maxLen := by unfold maxLen; omega
      have HG : Hid (((w3.alloc (.cells #[.int .u8 (tag.toNat : Int), .slice X1 m1 k1, .slice X2 m2 k2] 43)).alloc (.cells #[.int .u8 (tag.toNat : Int), .slice X1 m1 k1, .slice X2 m2 k2] 43)).heap[w3.heap.size + 1]? = some (.cells #[.int .u8 (tag.toNat : Int), .slice X1 m1 k1, .slice X2 m2 k2] 43)) := has_new' _ _ _ (by simp)
      have HOW := Lib.hid (((HO.out.below hb3 (Nat.le_refl _)).alloc (.cells #[.int .u8 (tag.toNat : Int), .slice X1 m1 k1, .slice X2 m2 k2] 43)).alloc (.cells #[.int .u8 (tag.toNat : Int), .slice X1 m1 k1, .slice X2 m2 k2] 43))
      have H1 : Hid (∀ u ∈ (#[.int .u8 (tag.toNat : Int), .slice X1 m1 k1, .slice X2 m2 k2] : Array Value).toList, u.oneCell' = true) := by intro u hu; simp at hu; rcases hu with rfl | rfl | rfl <;> rfl
      have HV : Hid (Evs w3 w.heap.size (vs ++ [⟨tag, X1, m1, k1, X2, m2, k2, (rest.take t).drop s, rest.take t⟩])) := HE.out.snoc hb3 hsz _ o1 o2 f1 HNE.out.symm
      have hln := o3.len
      have hl3 : m3 + t = n1 := by rw [List.length_drop, HL1.out] at hln; omega
      have hs3 := hb3.size
      have HS3 := Lib.hid (show _ ∧ _ ∧ _ from ⟨hb03, hl3, o3.lower hsz⟩)
      have hcp := o3.cap
      have hcp2 : k3 ≤ 9223372036854775807 := by have := hcp.2; unfold maxLen at this; omega
      have hcp1 := hcp.1
      clear o1 o2 o3 f1 f2 f3 hb3 hb hln hl3 hb03 hcp
      go_wp2_with (at_builtin; refine wpList_appL el_row _ _ rfl rfl rfl w.heap.size A2 n2 c2 _ rfl HOW.out (w3.heap.size + 1) 1 1 #[.int .u8 (tag.toNat : Int), .slice X1 m1 k1, .slice X2 m2 k2] _ rfl HG.out rfl H1.out hmax (by omega) (by simp; omega) ?_)
      intro V' c' w5 ho5 hg5
      obtain ⟨hb03, hl3, o3⟩ := HS3.out
      have hev5 : Evs w5 w.heap.size (vs ++ [⟨tag, X1, m1, k1, X2, m2, k2, (rest.take t).drop s, rest.take t⟩]) := (HV.out.below (kp_alloc (kp_alloc (Below.refl _ _) _) _) (Nat.le_refl _)).kept HOW.out hg5
      have o35 := ((o3.alloc (.cells #[.int .u8 (tag.toNat : Int), .slice X1 m1 k1, .slice X2 m2 k2] 43)).alloc (.cells #[.int .u8 (tag.toNat : Int), .slice X1 m1 k1, .slice X2 m2 k2] 43))
      have o36 := o35.kept hg5 (o35.row.ne HOW.out (by decide))
      have hb5 : Below w.heap.size w w5 := (kp_alloc (kp_alloc hb03 _) _).grown hg5 (by simp; omega) (fun g hg => (HOW.out.blk_lt hg).1)
      have HF := Lib.hid (show _ ∧ _ ∧ _ ∧ _ from ⟨ho5, hev5, o36, hb5⟩)
      clear ho5 hev5 o35 o36 hb5 o3 hb03
      go_wp2
      obtain ⟨r1, r2, r3, r4⟩ := HF.out
      go_roundw
      case rel => exact ⟨X3, m3, k3, rest.drop t, V', n2 + 1, c', vs ++ [⟨tag, X1, m1, k1, X2, m2, k2, (rest.take t).drop s, rest.take t⟩], rfl, rfl, .inr r3, hcp1, hcp2, by rw [List.flatMap_append]; exact r1, r2, r4, by unfold Hid; rw [HN.out, List.map_append]; rfl, by omega⟩
      case measure => simp [sLen]; omega
end Go.Proofs.Ytamkbedbkjndgaa
namespace Go.Proofs.Ytamkbedbkjndgaa
open Go.RowKit Go
set_option linter.unusedVariables false
set_option linter.unusedSimpArgs false
set_option maxRecDepth 100000
theorem rwithin_leaf (tag : UInt8) (ba ra : Option Addr) (bn bc rn rc : Nat) (d : Int) (w : World) (h : tag.toNat / 32 % 2 = 0 ∨ bn = 0) :
    Calls Try.prog 37 #[.agg #[.int .u8 (tag.toNat : Int), .slice ba bn bc, .slice ra rn rc], .int .i64 d] w (ChkPost w 0) := by
  have hand := and32 tag
  by_cases ht : tag.toNat / 32 % 2 = 0
  · have t1 : ((tag.toNat : Int) / 32 % 2 * 32 == 0) = true := by simp; omega
    clear h ht
    go_enter Try.func37, Try.ntmps37
    go_wp2
    go_ret
    exact ⟨rfl, (Below.refl _ _).alloc (Nat.le_refl _) _⟩
  · have t1 : ((tag.toNat : Int) / 32 % 2 * 32 == 0) = false := by simp; omega
    obtain rfl : bn = 0 := by omega
    clear h ht
    go_enter Try.func37, Try.ntmps37
    go_wp2
    go_ret
    exact ⟨rfl, (Below.refl _ _).alloc (Nat.le_refl _) _⟩
theorem rwithin_bottom (tag : UInt8) (ba ra : Option Addr) (bn bc rn rc : Nat) (w : World) (ht : tag.toNat / 32 % 2 ≠ 0) (hb : bn ≠ 0) :
    Calls Try.prog 37 #[.agg #[.int .u8 (tag.toNat : Int), .slice ba bn bc, .slice ra rn rc], .int .i64 16] w (ChkPost w 10) := by
  have hand := and32 tag
  have t1 : ((tag.toNat : Int) / 32 % 2 * 32 == 0) = false := by simp; omega
  have t2 : ((bn : Int) == 0) = false := by simp; omega
  clear ht hb
  go_enter Try.func37, Try.ntmps37
  go_wp2
  go_ret
  exact ⟨rfl, (Below.refl _ _).alloc (Nat.le_refl _) _⟩
theorem rwithin_bad (tag : UInt8) (ba ra : Option Addr) (bn bc rn rc : Nat) (body : List UInt8) (d : Int) (hd : d < 16) (w : World) (ht : tag.toNat / 32 % 2 ≠ 0) (hb : bn ≠ 0)
    (hR : RB w ba bn body) (hbc : bn ≤ bc) (hn : bn ≤ 1000000000) (hc : bc ≤ 9223372036854775807) (hno : allQ body = none) :
    Calls Try.prog 37 #[.agg #[.int .u8 (tag.toNat : Int), .slice ba bn bc, .slice ra rn rc], .int .i64 d] w (ChkPost w 9) := by
  have hand := and32 tag
  have t1 : ((tag.toNat : Int) / 32 % 2 * 32 == 0) = false := by simp; omega
  have t2 : ((bn : Int) == 0) = false := by simp; omega
  have t3 : (d == 16) = false := by simp; omega
  have C : Hid (∀ W, Below w.heap.size w W → Calls Try.prog 11 #[.slice ba bn bc] W fun e w' => e = .returned (.tuple #[.slice none 0 0, .int .i64 9]) ∧ Below W.heap.size W w') := fun W hw => (rall_any ba bn bc body W (hR.below hw) hbc hn hc).mono fun e w' hp => by
    unfold AllPost at hp; rw [hno] at hp; exact hp
  clear ht hb hR hno
  go_enter Try.func37, Try.ntmps37
  go_wp2_with fail
  refine (C.out _ (kp_alloc (Below.refl _ _) _)).mono ?_
  rintro e w' ⟨rfl, hb⟩
  go_wp2
  go_ret
  exact ⟨rfl, kp_call (kp_alloc (Below.refl _ _) _) hb⟩
/-- An element that may be gone through. -/
structure EV.Ok (w : World) (v : EV) : Prop where
  b : RB w v.ba v.bn v.body
  le : v.bn ≤ 1000000000
  cle : v.bn ≤ v.bc
  cc : v.bc ≤ 9223372036854775807
  tag : v.raw.getD 0 0 = v.tag
theorem EV.Ok.below {w w' : World} {v : EV} (h : EV.Ok w v) (hb : Below w.heap.size w w') : EV.Ok w' v := ⟨h.b.below hb, h.le, h.cle, h.cc, h.tag⟩
def EV.val (v : EV) : Value := .agg #[.int .u8 (v.tag.toNat : Int), .slice v.ba v.bn v.bc, .slice v.ra v.rn v.rc]
theorem allQ_parts : ∀ (k : Nat) (bs : List UInt8) (l : List (List UInt8 × List UInt8)), bs.length ≤ k → allQ bs = some l → ∀ p ∈ l, p.2.length ≤ bs.length ∧ p.1.length ≤ bs.length
  | 0, bs, l, hk, h => by
    obtain rfl : bs = [] := List.length_eq_zero_iff.1 (by omega)
    rw [allQ_nil] at h
    cases h
    simp
  | k + 1, bs, l, hk, h => by
    by_cases hn : bs = []
    · subst hn
      rw [allQ_nil] at h
      cases h
      simp
    cases hq : splitQ bs with
    | none => rw [allQ_none hn hq] at h; cases h
    | some p =>
      obtain ⟨s, t⟩ := p
      rw [allQ_some hq] at h
      obtain ⟨l', h1, rfl⟩ := Option.map_eq_some_iff.1 h
      have hle := splitQ_le hq
      have ih := allQ_parts k (bs.drop t) l' (by rw [List.length_drop]; omega) h1
      intro p hp
      rcases List.mem_cons.1 hp with rfl | hp
      · simp only [List.length_take, List.length_drop]; omega
      · have := ih p hp
        simp only [List.length_drop] at this
        omega
set_option maxHeartbeats 1000000 in
theorem rwithin_go (k : Nat) (tag : UInt8) (ba ra : Option Addr) (bn bc rn rc : Nat) (body : List UInt8) (hk : k + 1 ≤ 15) (w : World) (ht : tag.toNat / 32 % 2 ≠ 0) (hb : bn ≠ 0)
    (hR : RB w ba bn body) (hbc : bn ≤ bc) (hn : bn ≤ 1000000000) (hc : bc ≤ 9223372036854775807) (l : List (List UInt8 × List UInt8)) (hl : allQ body = some l)
    (ih : Hid (∀ (p : EV) (W : World), p.Ok W → Calls Try.prog 37 #[p.val, .int .i64 (16 - (k : Int))] W (ChkPost W (chk k p.raw p.body)))) :
    Calls Try.prog 37 #[.agg #[.int .u8 (tag.toNat : Int), .slice ba bn bc, .slice ra rn rc], .int .i64 (15 - (k : Int))] w (ChkPost w (firstN (l.map fun p => chk k p.1 p.2))) := by
  have hand := and32 tag
  have t1 : ((tag.toNat : Int) / 32 % 2 * 32 == 0) = false := by simp; omega
  have t2 : ((bn : Int) == 0) = false := by simp; omega
  have t3 : ((15 : Int) - (k : Int) == 16) = false := by simp; omega
  have C : Hid (∀ W, Below w.heap.size w W → Calls Try.prog 11 #[.slice ba bn bc] W fun e w' => (∃ (A : Option Addr) (n c : Nat) (vs : List EV), e = .returned (.tuple #[.slice A n c, .int .i64 0]) ∧ vs.map (fun v => (v.raw, v.body)) = l ∧ OwnR w' W.heap.size 43 3 A n c (vs.flatMap EV.cells) ∧ Evs w' W.heap.size vs) ∧ Below W.heap.size W w') := fun W hw => (rall_any ba bn bc body W (hR.below hw) hbc hn hc).mono fun e w' hp => by
    unfold AllPost at hp; rw [hl] at hp; exact hp
  have HLL : Hid (l.length ≤ 1000000000) := by
    have := allQ_len _ body _ (Nat.le_refl _) hl
    rw [hR.1] at this
    unfold Hid; omega
  have HPL : Hid (∀ p ∈ l, p.2.length ≤ 1000000000) := fun p hp => by
    have := (allQ_parts _ body _ (Nat.le_refl _) hl p hp).1
    rw [hR.1] at this
    omega
  clear ht hb hR hl
  go_enter Try.func37, Try.ntmps37
  go_wp2_with fail
  refine (C.out _ (kp_alloc (Below.refl _ _) _)).mono ?_
  rintro e w1 ⟨⟨A, n, c, vs, rfl, hps, hown, hev⟩, hb1⟩
  have hbw1 : Below w.heap.size w w1 := kp_call (kp_alloc (Below.refl _ _) _) hb1
  have hnp : n = vs.length := by have := hown.len; rw [ecells_flat] at this; omega
  have hnl : vs.length = l.length := by rw [← hps]; simp
  have HNP := Lib.hid hnp
  have HPS := Lib.hid hps
  have HOK : Hid (∀ v ∈ vs, v.Ok w1) := fun v hv => by
    obtain ⟨o1, o2⟩ := hev.pair hv
    have hm : (v.raw, v.body) ∈ l := by rw [← hps]; exact List.mem_map.2 ⟨v, hv, rfl⟩
    have h1 := HPL.out _ hm
    have h2 := o1.len
    have h3 := o1.cap
    have h4 := h3.2
    unfold maxLen at h4
    exact ⟨o1.rb, by simp only at h1; omega, h3.1, by omega, hev.tag v hv⟩
  have HOW := Lib.hid hown.reads
  have hn2 : n ≤ 1000000000 := by have := HLL.out; omega
  have hs1 := hbw1.size
  have hdd : (15 : Int) - (k : Int) + 1 = 16 - (k : Int) := by omega
  clear hnp hnl hps hown hb1 hev
  go_wp2
  go_loopw [7] (fun i wl => ∃ (j : Nat), j ≤ n ∧ i = .int .i64 j ∧ Below w1.heap.size w1 wl ∧ Hid (∀ i p, i < j → vs[i]? = some p → chk k p.raw p.body = 0)) (fun i _ => n - (intOf i).toNat)
  case atStart => exact ⟨0, Nat.zero_le _, rfl, Below.refl _ _, fun i p hi => absurd hi (Nat.not_lt_zero _)⟩
  case round =>
    obtain ⟨j, hj, rfl, hbl, HZ⟩ := hrel
    by_cases hlt : j < n
    · obtain ⟨p, hp⟩ : ∃ p, vs[j]? = some p := ⟨_, List.getElem?_eq_getElem (by rw [← HNP.out]; exact hlt)⟩
      obtain ⟨hg0, hg1, hg2⟩ := eflat_get vs p j hp
      obtain ⟨b, off, rfl, hb, hc0⟩ := HOW.out.at_ hg0
      obtain ⟨b', off', e', _, hc1⟩ := HOW.out.at_ hg1
      cases e'
      obtain ⟨b', off', e', _, hc2⟩ := HOW.out.at_ hg2
      cases e'
      have d0 := kp_cell hbl hc0
      have d1 := kp_cell hbl hc1
      have d2 := kp_cell hbl hc2
      rw [← Nat.add_assoc] at d1 d2
      have hpk := HOK.out p (List.mem_of_getElem? hp)
      have HP := Lib.hid hp
      have hsr := hbl.size
      have CE := Lib.hid (ih.out p wr (hpk.below hbl))
      rw [EV.val] at CE
      have hcl := chk_le k p.raw p.body
      clear hc0 hc1 hc2 hp hg0 hg1 hg2 hpk
      generalize hx : chk k p.raw p.body = x at *
      have HX := Lib.hid hx
      clear hx
      by_cases hx0 : x = 0
      · subst hx0
        go_wp2_with fail
        refine CE.out.mono ?_
        rintro e w4 ⟨rfl, hb4⟩
        have hb14 : Below w1.heap.size w1 w4 := kp_call hbl hb4
        go_wp2
        go_roundw
        case rel => exact ⟨j + 1, by omega, by go_num, hb14, fun i q hi hq => by
          rcases Nat.lt_or_ge i j with h9 | h9
          · exact HZ.out i q h9 hq
          · obtain rfl : i = j := by omega
            rw [HP.out] at hq
            cases hq
            exact HX.out⟩
        case measure => simp [intOf]; omega
      · have t9 : ((x : Int) != 0) = true := by simp; omega
        have HF : Hid (firstN (l.map fun p => chk k p.1 p.2) = x) := by
          unfold Hid
          refine firstN_at _ j x ?_ hx0 (fun i y hi hy => ?_)
          · rw [← HPS.out, List.map_map, List.getElem?_map, HP.out]
            simp [HX.out]
          · rw [← HPS.out, List.map_map, List.getElem?_map] at hy
            cases hq : vs[i]? with
            | none => rw [hq] at hy; simp at hy
            | some q =>
              rw [hq] at hy
              simp at hy
              rw [← hy]
              exact HZ.out i q hi hq
        clear hx0
        go_wp2_with fail
        refine CE.out.mono ?_
        rintro e w4 ⟨rfl, hb4⟩
        have hb14 : Below w1.heap.size w1 w4 := kp_call hbl hb4
        go_wp2
        go_ret
        exact ⟨by rw [HF.out]; rfl, hbw1.trans (hb14.mono hs1)⟩
    · obtain rfl : j = n := by omega
      have HF : Hid (firstN (l.map fun p => chk k p.1 p.2) = 0) := by
        unfold Hid
        refine firstN_zero (fun x hx => ?_)
        rw [← HPS.out, List.map_map] at hx
        obtain ⟨q, hq, rfl⟩ := List.mem_map.1 hx
        obtain ⟨i, hi, hqi⟩ := List.getElem_of_mem hq
        exact HZ.out i q (by rw [HNP.out]; exact hi) (by rw [List.getElem?_eq_getElem hi, hqi])
      go_wp2
      go_ret
      exact ⟨by rw [HF.out]; rfl, hbw1.trans (hbl.mono hs1)⟩
theorem rwithin_any (k : Nat) : ∀ (hk : k ≤ 15) (p : EV) (w : World) (hp : p.Ok w), Calls Try.prog 37 #[p.val, .int .i64 (16 - (k : Int))] w (ChkPost w (chk k p.raw p.body)) := by
  induction k with
  | zero =>
    intro hk p w hp
    obtain ⟨tag, ba, bn, bc, ra, rn, rc, body, raw⟩ := p
    obtain ⟨hbd, hle, hcl, hcc, htag⟩ := hp
    simp only [EV.val] at *
    have hnt : nth raw 0 = tag.toNat := by unfold nth; rw [htag]
    have hbn : body = [] ↔ bn = 0 := by rw [← hbd.1]; exact List.length_eq_zero_iff.symm
    by_cases hlf : tag.toNat / 32 % 2 = 0 ∨ bn = 0
    · rw [chk_leaf 0 (by rw [hnt, hbn]; exact hlf)]
      exact rwithin_leaf tag ba ra bn bc rn rc _ w hlf
    · rw [chk_bottom (by rw [hnt, hbn]; exact hlf)]
      exact rwithin_bottom tag ba ra bn bc rn rc w (fun e => hlf (.inl e)) (fun e => hlf (.inr e))
  | succ k ih =>
    intro hk p w hp
    obtain ⟨tag, ba, bn, bc, ra, rn, rc, body, raw⟩ := p
    obtain ⟨hbd, hle, hcl, hcc, htag⟩ := hp
    simp only [EV.val] at *
    have hnt : nth raw 0 = tag.toNat := by unfold nth; rw [htag]
    have hbn : body = [] ↔ bn = 0 := by rw [← hbd.1]; exact List.length_eq_zero_iff.symm
    have hd : (16 : Int) - ((k + 1 : Nat) : Int) = 15 - (k : Int) := by omega
    by_cases hlf : tag.toNat / 32 % 2 = 0 ∨ bn = 0
    · rw [chk_leaf _ (by rw [hnt, hbn]; exact hlf)]
      exact rwithin_leaf tag ba ra bn bc rn rc _ w hlf
    have hnl : ¬ (nth raw 0 / 32 % 2 = 0 ∨ body = []) := by rw [hnt, hbn]; exact hlf
    cases hq : allQ body with
    | none =>
      rw [chk_none hnl hq]
      exact rwithin_bad tag ba ra bn bc rn rc body _ (by omega) w (fun e => hlf (.inl e)) (fun e => hlf (.inr e)) hbd hcl hle hcc hq
    | some l =>
      rw [chk_some hnl hq, hd]
      exact rwithin_go k tag ba ra bn bc rn rc body hk w (fun e => hlf (.inl e)) (fun e => hlf (.inr e)) hbd hcl hle hcc l hq (fun p W hp => ih (by omega) p W hp)
theorem checkQ_none {bs : List UInt8} (h : splitQ bs = none) : checkQ bs = 9 := by
  unfold checkQ
  by_cases hn : bs = []
  · subst hn; rw [allQ_nil]
  · rw [allQ_none hn h]
theorem allQ_ne {bs : List UInt8} (hn : bs ≠ []) : allQ bs ≠ some [] := by
  cases hq : splitQ bs with
  | none => rw [allQ_none hn hq]; simp
  | some p =>
    obtain ⟨s, t⟩ := p
    rw [allQ_some hq]
    cases allQ (bs.drop t) <;> simp
theorem checkQ_more {bs : List UInt8} {s t : Nat} (h : splitQ bs = some (s, t)) (hr : bs.drop t ≠ []) : checkQ bs = 9 := by
  unfold checkQ
  rw [allQ_some h]
  cases hq : allQ (bs.drop t) with
  | none => rfl
  | some l =>
    cases l with
    | nil => exact absurd hq (allQ_ne hr)
    | cons x y => rfl
theorem checkQ_one {bs : List UInt8} {s t : Nat} (h : splitQ bs = some (s, t)) (hr : bs.drop t = []) : checkQ bs = chk 15 (bs.take t) ((bs.take t).drop s) := by
  unfold checkQ
  rw [allQ_some h, hr, allQ_nil]
  rfl
set_option maxHeartbeats 1000000 in
theorem rCheck_any (A : Option Addr) (n c : Nat) (bs : List UInt8) (w : World) (hR : RB w A n bs) (hnc : n ≤ c) (hn : n ≤ 1000000000) (hc : c ≤ 9223372036854775807) :
    Calls Try.prog 14 #[.slice A n c] w (ChkPost w (checkQ bs)) := by
  have hl := hR.1
  have P := rparse_any A n c bs w hR hnc hn hc
  cases hq : splitQ bs with
  | none =>
    have C : Hid (Calls Try.prog 34 #[.slice A n c] w fun e w' => e = .returned (.tuple #[.agg #[.int .u8 0, .slice none 0 0, .slice none 0 0], .slice none 0 0, .int .i64 9]) ∧ Below w.heap.size w w') := P.mono fun e w' hp => by
      unfold ParsePost at hp; rw [hq] at hp; exact hp
    rw [checkQ_none hq]
    clear P hq hR hl
    go_enter Try.func14, Try.ntmps14
    go_wp2_with fail
    refine C.out.mono ?_
    rintro e w1 ⟨rfl, hb1⟩
    go_wp2
    go_ret
    exact ⟨rfl, kp_alloc hb1 _⟩
  | some p =>
    obtain ⟨s, t⟩ := p
    obtain ⟨hs2, hst, htn⟩ := splitQ_le hq
    have C : Hid (Calls Try.prog 34 #[.slice A n c] w fun e w' => (∃ A1 n1 c1 A2 n2 c2 A3 n3 c3, e = .returned (.tuple #[.agg #[.int .u8 ((bs.getD 0 0).toNat : Int), .slice A1 n1 c1, .slice A2 n2 c2], .slice A3 n3 c3, .int .i64 0]) ∧ OwnB w' w.heap.size A1 n1 c1 ((bs.take t).drop s) ∧ OwnB w' w.heap.size A2 n2 c2 (bs.take t) ∧ OwnB w' w.heap.size A3 n3 c3 (bs.drop t) ∧
          (blk A1 = none ∨ blk A1 ≠ blk A2) ∧ (blk A1 = none ∨ blk A1 ≠ blk A3) ∧ (blk A2 = none ∨ blk A2 ≠ blk A3)) ∧ Below w.heap.size w w') := P.mono fun e w' hp => by
      unfold ParsePost at hp; rw [hq] at hp; exact hp
    have HT : Hid ((bs.take t).getD 0 0 = bs.getD 0 0) := by
      unfold Hid
      rw [List.getD_eq_getElem?_getD, List.getD_eq_getElem?_getD, List.getElem?_take, if_pos (by omega)]
    obtain ⟨tag, htag⟩ : ∃ tag, bs.getD 0 0 = tag := ⟨_, rfl⟩
    rw [htag] at C HT
    clear htag
    by_cases hr : bs.drop t = []
    · rw [checkQ_one hq hr]
      have HR := Lib.hid hr
      have HLB : Hid (((bs.take t).drop s).length ≤ 1000000000) := by unfold Hid; simp only [List.length_take, List.length_drop]; omega
      clear P hq hR hr
      go_enter Try.func14, Try.ntmps14
      go_wp2_with fail
      refine C.out.mono ?_
      rintro e w1 ⟨⟨X1, m1, k1, X2, m2, k2, X3, m3, k3, rfl, o1, o2, o3, _, _, _⟩, hb1⟩
      obtain rfl : m3 = 0 := by have := o3.len; rw [HR.out] at this; simpa using this.symm
      have hba := kp_alloc (Below.refl w1.heap.size w1) (.cells #[.int .u8 (tag.toNat : Int), .slice X1 m1 k1, .slice X2 m2 k2] 43)
      have h2 := o1.len
      have h3 := o1.cap
      have h4 := h3.2
      unfold maxLen at h4
      have h5 := HLB.out
      have CE := Lib.hid (rwithin_any 15 (by omega) ⟨tag, X1, m1, k1, X2, m2, k2, (bs.take t).drop s, bs.take t⟩ (w1.alloc (.cells #[.int .u8 (tag.toNat : Int), .slice X1 m1 k1, .slice X2 m2 k2] 43)) ⟨(o1.below hba (Nat.le_refl _)).rb, by simp only; omega, h3.1, by simp only; omega, HT.out⟩)
      rw [EV.val, show (16 : Int) - ((15 : Nat) : Int) = 1 from rfl] at CE
      have HB := Lib.hid (kp_call hb1 hba)
      clear o1 o2 o3 h2 h3 h4 h5 hba hb1
      go_wp2_with fail
      refine CE.out.mono ?_
      rintro e w2 ⟨rfl, hb2⟩
      go_wp2
      go_ret
      exact ⟨rfl, kp_call HB.out hb2⟩
    · rw [checkQ_more hq hr]
      have HR := Lib.hid hr
      clear P hq hR hr
      go_enter Try.func14, Try.ntmps14
      go_wp2_with fail
      refine C.out.mono ?_
      rintro e w1 ⟨⟨X1, m1, k1, X2, m2, k2, X3, m3, k3, rfl, o1, o2, o3, _, _, _⟩, hb1⟩
      have hm3 : (0 : Int) < (m3 : Int) := by
        have := o3.len
        have h9 : (bs.drop t).length ≠ 0 := fun e => HR.out (List.length_eq_zero_iff.1 e)
        omega
      clear o1 o2 o3
      go_wp2
      go_ret
      exact ⟨rfl, kp_alloc hb1 _⟩
end Go.Proofs.Ytamkbedbkjndgaa

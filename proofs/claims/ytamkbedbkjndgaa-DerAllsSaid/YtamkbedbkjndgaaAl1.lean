/-
  der: the document's All.
-/
import Derived.Test.YtamkbedbkjndgaaDrM
import Derived.Test.YtamkbedbkjndgaaDrAp
namespace Go.Proofs.Ytamkbedbkjndgaa
open Go.RowKit Go
set_option linter.unusedVariables false
set_option linter.unusedSimpArgs false
set_option maxRecDepth 100000
theorem Evs.kept {w w' : World} {base base' nl cl : Nat} {L : Option Addr} {cs : List Value} {vs : List EV} (h : Evs w base vs) (hL : OwnR w base' 43 3 L nl cl cs) (hg : w.grownBy w' (blk L)) : Evs w' base vs :=
  ⟨fun x hx => (h.own x hx).kept hg ((h.own x hx).row.ne hL (by decide)), h.far, h.tag⟩
def sLen (v : Value) : Nat := match v with | .slice _ k _ => k | _ => 0
/-- What is left: of the bytes themselves, or a copy. -/
def RestR (w0 : World) (base : Nat) (A : Option Addr) (n c : Nat) (rest : List UInt8) (w : World) : Prop := (RB w0 A n rest ∧ Below w0.heap.size w0 w) ∨ OwnB w base A n c rest
theorem RestR.rb {w0 w : World} {base n c : Nat} {A : Option Addr} {rest : List UInt8} (h : RestR w0 base A n c rest w) : RB w A n rest := by
  rcases h with ⟨h, hb⟩ | h
  · exact h.below hb
  · exact h.rb
set_option maxHeartbeats 2000000 in
theorem rall_any (A0 : Option Addr) (n0 c0 : Nat) (bs : List UInt8) (w : World) (hR0 : RB w A0 n0 bs) (hnc : n0 ≤ c0) (hn : n0 ≤ 1000000000) (hc : c0 ≤ 9223372036854775807) :
    Calls Try.prog 11 #[.slice A0 n0 c0] w (AllPost w bs) := by
  have HR0 := Lib.hid hR0
  clear hR0
  go_enter Try.func11, Try.ntmps11
  go_wp2
  go_loopw [0, 4] (fun v u wl => ∃ (A1 : Option Addr) (n1 c1 : Nat) (rest : List UInt8) (A2 : Option Addr) (n2 c2 : Nat) (vs : List EV), v = .slice A1 n1 c1 ∧ u = .slice A2 n2 c2 ∧ RestR w w.heap.size A1 n1 c1 rest wl ∧ n1 ≤ c1 ∧ c1 ≤ 9223372036854775807 ∧ OwnR wl w.heap.size 43 3 A2 n2 c2 (vs.flatMap EV.cells) ∧ Evs wl w.heap.size vs ∧ Below w.heap.size w wl ∧ Hid (allQ bs = (allQ rest).map ((vs.map fun v => (v.raw, v.body)) ++ ·)) ∧ n2 + n1 ≤ n0) (fun v _ _ => sLen v)
  case atStart => exact ⟨A0, n0, c0, bs, none, 0, 0, [], rfl, rfl, .inl ⟨HR0.out, Below.refl _ _⟩, hnc, hc, OwnR.nil _ _ _ _, Evs.nil _ _, Below.refl _ _, (by unfold Hid; cases allQ bs <;> simp), by omega⟩
  case round =>
    obtain ⟨A1, n1, c1, rest, A2, n2, c2, vs, rfl, rfl, hrest, hnc1, hcc1, ho, hev, hb, HX, hcnt⟩ := hrel
    have hR1 := hrest.rb
    have hsz := hb.size
    by_cases h0 : n1 = 0
    · subst h0
      have hr : rest = [] := List.length_eq_zero_iff.1 hR1.1
      subst hr
      have HN : Hid (allQ bs = some (vs.map fun v => (v.raw, v.body))) := by unfold Hid; rw [HX.out, allQ_nil]; simp
      clear hR1 hrest
      go_wp2
      go_ret2
      unfold AllPost
      rw [HN.out]
      exact ⟨⟨A2, n2, c2, vs, rfl, rfl, ho, hev⟩, hb⟩
    have hne : rest ≠ [] := by rintro rfl; have := hR1.1; simp at this; omega
    have P := rparse_any A1 n1 c1 rest wr hR1 hnc1 (by omega) hcc1
    cases hq : splitQ rest with
    | none =>
      have HN : Hid (allQ bs = none) := by unfold Hid; rw [HX.out, allQ_none hne hq]; rfl
      have C : Hid (Calls Try.prog 34 #[.slice A1 n1 c1] wr fun e w' => e = .returned (.tuple #[.agg #[.int .u8 0, .slice none 0 0, .slice none 0 0], .slice none 0 0, .int .i64 9]) ∧ Below wr.heap.size wr w') := P.mono fun e w' hp => by
        unfold ParsePost at hp; rw [hq] at hp; exact hp
      have hpos : (0 : Int) < (n1 : Int) := by omega
      clear P hrest hR1 hq hne
      go_wp2_with fail
      refine C.out.mono ?_
      rintro e w3 ⟨rfl, hb3⟩
      go_wp2
      go_ret2
      unfold AllPost
      rw [HN.out]
      exact ⟨rfl, kp_alloc (kp_call hb hb3) _⟩
    | some p =>
      obtain ⟨s, t⟩ := p
      obtain ⟨hs2, hst, htn⟩ := splitQ_le hq
      rw [hR1.1] at htn
      have HNE : Hid (rest.getD 0 0 = (rest.take t).getD 0 0) := by
        unfold Hid
        rw [List.getD_eq_getElem?_getD, List.getD_eq_getElem?_getD, List.getElem?_take, if_pos (by omega)]
      have C : Hid (Calls Try.prog 34 #[.slice A1 n1 c1] wr fun e w' => (∃ A1 n1 c1 A2 n2 c2 A3 n3 c3, e = .returned (.tuple #[.agg #[.int .u8 ((rest.getD 0 0).toNat : Int), .slice A1 n1 c1, .slice A2 n2 c2], .slice A3 n3 c3, .int .i64 0]) ∧ OwnB w' wr.heap.size A1 n1 c1 ((rest.take t).drop s) ∧ OwnB w' wr.heap.size A2 n2 c2 (rest.take t) ∧ OwnB w' wr.heap.size A3 n3 c3 (rest.drop t) ∧
          (blk A1 = none ∨ blk A1 ≠ blk A2) ∧ (blk A1 = none ∨ blk A1 ≠ blk A3) ∧ (blk A2 = none ∨ blk A2 ≠ blk A3)) ∧ Below wr.heap.size wr w') := P.mono fun e w' hp => by
        unfold ParsePost at hp; rw [hq] at hp; exact hp
      have HN : Hid (allQ bs = (allQ (rest.drop t)).map (((vs.map fun v => (v.raw, v.body)) ++ [(rest.take t, (rest.take t).drop s)]) ++ ·)) := by
        unfold Hid
        rw [HX.out, allQ_some hq, Option.map_map]
        congr 1
        funext l
        simp
      have HL1 := Lib.hid hR1.1
      have hpos : (0 : Int) < (n1 : Int) := by omega
      clear P hrest hR1 hq hne HX
      obtain ⟨tag, htag⟩ : ∃ tag, rest.getD 0 0 = tag := ⟨_, rfl⟩
      rw [htag] at C HNE
      have HTG := Lib.hid htag
      clear htag
      have HO := Lib.hid ho
      have HE := Lib.hid hev
      clear ho hev
      go_wp2_with fail
      refine C.out.mono ?_
      rintro e w3 ⟨⟨X1, m1, k1, X2, m2, k2, X3, m3, k3, rfl, o1, o2, o3, f1, f2, f3⟩, hb3⟩
      have hb03 := kp_call hb hb3
      have hmax : n2 + 1 ≤ maxLen := by unfold maxLen; omega
      have HG : Hid (((w3.alloc (.cells #[.int .u8 (tag.toNat : Int), .slice X1 m1 k1, .slice X2 m2 k2] 43)).alloc (.cells #[.int .u8 (tag.toNat : Int), .slice X1 m1 k1, .slice X2 m2 k2] 43)).heap[w3.heap.size + 1]? = some (.cells #[.int .u8 (tag.toNat : Int), .slice X1 m1 k1, .slice X2 m2 k2] 43)) := has_new' _ _ _ (by simp)
      have HOW := Lib.hid (((HO.out.below hb3 (Nat.le_refl _)).alloc (.cells #[.int .u8 (tag.toNat : Int), .slice X1 m1 k1, .slice X2 m2 k2] 43)).alloc (.cells #[.int .u8 (tag.toNat : Int), .slice X1 m1 k1, .slice X2 m2 k2] 43))
      have H1 : Hid (∀ u ∈ (#[.int .u8 (tag.toNat : Int), .slice X1 m1 k1, .slice X2 m2 k2] : Array Value).toList, u.oneCell' = true) := by intro u hu; simp at hu; rcases hu with rfl | rfl | rfl <;> rfl
      have HV : Hid (Evs w3 w.heap.size (vs ++ [⟨tag, X1, m1, k1, X2, m2, k2, (rest.take t).drop s, rest.take t⟩])) := HE.out.snoc hb3 hsz _ o1 o2 f1 HNE.out.symm
      have hln := o3.len
      have hl3 : m3 + t = n1 := by rw [List.length_drop, HL1.out] at hln; omega
      have hs3 := hb3.size
      have HS3 := Lib.hid (show _ ∧ _ ∧ _ from ⟨hb03, hl3, o3.lower hsz⟩)
      have hcp := o3.cap
      have hcp2 : k3 ≤ 9223372036854775807 := by have := hcp.2; unfold maxLen at this; omega
      have hcp1 := hcp.1
      clear o1 o2 o3 f1 f2 f3 hb3 hb hln hl3 hb03 hcp
      go_wp2_with (at_builtin; refine wpList_appL el_row _ _ rfl rfl rfl w.heap.size A2 n2 c2 _ rfl HOW.out (w3.heap.size + 1) 1 1 #[.int .u8 (tag.toNat : Int), .slice X1 m1 k1, .slice X2 m2 k2] _ rfl HG.out rfl H1.out hmax (by omega) (by simp; omega) ?_)
      intro V' c' w5 ho5 hg5
      obtain ⟨hb03, hl3, o3⟩ := HS3.out
      have hev5 : Evs w5 w.heap.size (vs ++ [⟨tag, X1, m1, k1, X2, m2, k2, (rest.take t).drop s, rest.take t⟩]) := (HV.out.below (kp_alloc (kp_alloc (Below.refl _ _) _) _) (Nat.le_refl _)).kept HOW.out hg5
      have o35 := ((o3.alloc (.cells #[.int .u8 (tag.toNat : Int), .slice X1 m1 k1, .slice X2 m2 k2] 43)).alloc (.cells #[.int .u8 (tag.toNat : Int), .slice X1 m1 k1, .slice X2 m2 k2] 43))
      have o36 := o35.kept hg5 (o35.row.ne HOW.out (by decide))
      have hb5 : Below w.heap.size w w5 := (kp_alloc (kp_alloc hb03 _) _).grown hg5 (by simp; omega) (fun g hg => (HOW.out.blk_lt hg).1)
      have HF := Lib.hid (show _ ∧ _ ∧ _ ∧ _ from ⟨ho5, hev5, o36, hb5⟩)
      clear ho5 hev5 o35 o36 hb5 o3 hb03
      go_wp2
      obtain ⟨r1, r2, r3, r4⟩ := HF.out
      go_roundw
      case rel => exact ⟨X3, m3, k3, rest.drop t, V', n2 + 1, c', vs ++ [⟨tag, X1, m1, k1, X2, m2, k2, (rest.take t).drop s, rest.take t⟩], rfl, rfl, .inr r3, hcp1, hcp2, by rw [List.flatMap_append]; exact r1, r2, r4, by unfold Hid; rw [HN.out, List.map_append]; rfl, by omega⟩
      case measure => simp [sLen]; omega
end Go.Proofs.Ytamkbedbkjndgaa

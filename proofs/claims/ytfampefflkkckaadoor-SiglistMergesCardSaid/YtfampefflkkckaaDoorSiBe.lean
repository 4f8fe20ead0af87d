/-
  siglist: the document's stands (made by genSi2.py).
-/
import Derived.Test.YtfampefflkkckaaDoorSi3
import Derived.Test.YtfampefflkkckaaDoorSiAc
namespace Go.Proofs.YtfampefflkkckaaDoor
open Go.RowKit Go
set_option linter.unusedVariables false
set_option linter.unusedSimpArgs false
set_option maxRecDepth 100000

attribute [local go_sem ↓] Go.wp_at_zero Go.wp_at_succ
theorem mem_flat (l : List Lst) (k : UInt8) (v : Itm) : (k, v) ∈ flatK l ↔ ∃ x ∈ l, x.1 = k ∧ v ∈ x.2 := by
  unfold flatK
  rw [List.mem_flatMap]
  constructor
  · rintro ⟨x, hx, h⟩
    obtain ⟨y, hy, e⟩ := List.mem_map.1 h
    injection e with e1 e2
    subst e2
    exact ⟨x, hx, e1, hy⟩
  · rintro ⟨x, hx, rfl, hv⟩
    exact ⟨x, hx, List.mem_map.2 ⟨v, hv, rfl⟩⟩
theorem owner_range {W : World} {g : Nat} {o : List UInt8} {A : Option Addr} {n c : Nat} {t : TypeId} {fr : Nat × Nat} (h : W.heap[g]? = some (.cells (itmC o A n c) t fr)) : W.rangeAt g 0 (o.map bv) := fun j v hv => by
  have hj := (List.getElem?_eq_some_iff.1 hv).1
  rw [Nat.zero_add, cell_of_row _ _ _ _ _ _ h]
  unfold itmC
  rw [List.getElem?_toArray, List.getElem?_append_left hj]
  exact hv
theorem wpList_load_midG {P : Program} {ops : Array Oper} {rest : List Oper} {op : Oper} {a : Act} {w : World} {Q : Exit → Act → World → Prop} (hw : Region.wanted op (yielded ops a.tmps) = true) (ty : TypeId) (x : Operand) (ho : op.op = .load ty x)
    (b o : Nat) (hx : a.eval x = .pointer (some ⟨b, o, none⟩)) (cs : List Value) (d : TypeDesc) (hc : w.rangeAt b o cs)
    (hu : P.underlying ty = some d) (hd : d.isRow = true) (hi : (P.info? ty).map (·.size) = some cs.length)
    (h : wpList P ops Q rest (a.put op.dst (.agg cs.toArray)) w) : wpList P ops Q (op :: rest) a w :=
  wpList_step fun K hK => by
    rw [if_pos hw]
    exact wp_load_mid ty x ho b o hx cs d hc hu hd hi (hK _ _ h)
set_option maxHeartbeats 8000000 in
theorem stands_any (A : Option Addr) (n c : Nat) (ls : List LM) (kd : UInt8) (y : IM) (w : World) (hL : ListsZ w A n ls) (hc : n ≤ c) (hcm : c ≤ 9223372036854775807) (hn : n ≤ 100000000) (hm : ∀ z ∈ ls, z.n ≤ 4000000000000) (hy : ImR w y) :
    Calls Tryd.prog 33 #[.slice A n c, .int .u8 (kd.toNat : Int), .agg (itmC y.o y.a y.n y.c)] w fun e w' => e = .returned (.bool (decide ((kd, y.itm) ∈ flatK (ls.map LM.lst)))) ∧ Below w.heap.size w w' := by
  have HL := Lib.hid hL
  have HY := Lib.hid hy
  have HM := Lib.hid hm
  clear hL hy hm
  go_enter Tryd.func33, Tryd.ntmps33
  go_upto_region 2 with fail
  refine wp_nm fun W1 hW1 => ?_
  have H1 : Hid (W1.heap[w.heap.size]? = some (.cells (itmC y.o y.a y.n y.c) 49) ∧ Below w.heap.size w W1 ∧ w.heap.size ≤ W1.heap.size) := by
    rw [← hW1]; exact ⟨has_new w _, kp_alloc (Below.refl _ _) _, (kp_alloc (Below.refl w.heap.size w) _).size⟩
  clear hW1
  go_loopw [7] (fun v wl => ∃ (i : Nat), v = .int .i64 (i : Int) ∧ i ≤ n ∧ Below W1.heap.size W1 wl ∧ Hid (∀ j z, j < i → ls[j]? = some z → ∀ x ∈ z.lst.2, (z.lst.1, x) ≠ (kd, y.itm))) (fun v _ => (n - (intOf v).toNat))
  case atStart => exact ⟨0, rfl, Nat.zero_le _, Below.refl _ _, fun j z hj => absurd hj (by omega)⟩
  case round =>
    obtain ⟨i, rfl, hi, hb, hz⟩ := hrel
    rcases Nat.lt_or_ge i n with hlt | hge
    · have l1 : decide ((i : Int) < (n : Int)) = true := decide_eq_true (by omega)
      have l2 : decide (i < n) = true := decide_eq_true hlt
      obtain ⟨z, b, off, hg, hA, hbl, hr, zs, hz1⟩ := ((HL.out.below H1.out.2.1).below hb).at_ hlt
      subst hA
      obtain ⟨za, hza⟩ : ∃ za, z.a = za := ⟨_, rfl⟩
      have hzn := HM.out z (List.mem_of_getElem? hg)
      have K := Lib.hid (And.intro hb (And.intro hz (And.intro hg (And.intro hz1 hr))))
      obtain ⟨wo, hwo⟩ : ∃ wo, wo = wr := ⟨_, rfl⟩
      subst hwo
      clear hb hz hg hr hz1 hbl hi
      go_wp2
      go_loopw [8] (fun v wl => ∃ (j : Nat), v = .int .i64 (j : Int) ∧ j ≤ z.n ∧ Below wo.heap.size wo wl ∧ Hid (∀ q x, q < j → zs[q]? = some x → (z.k, x.itm) ≠ (kd, y.itm))) (fun v _ => (z.n - (intOf v).toNat))
      case atStart => exact ⟨0, rfl, Nat.zero_le _, Below.refl _ _, fun j z hj => absurd hj (by omega)⟩
      case round =>
        obtain ⟨j, rfl, hj, hb, hq⟩ := hrel
        have hrr := range_below K.out.2.2.2.2 hb
        have r0 : wr.cell? ⟨b, off + i * 2, none⟩ = some (.int .u8 (z.k.toNat : Int)) := hrr 0 _ rfl
        have r1 : wr.cell? ⟨b, off + i * 2 + 1, none⟩ = some (.slice za z.n z.c) := by rw [← hza]; exact hrr 1 _ rfl
        rcases Nat.lt_or_ge j z.n with hlt2 | hge2
        · have l3 : decide ((j : Int) < (z.n : Int)) = true := decide_eq_true (by omega)
          have l4 : decide (j < z.n) = true := decide_eq_true hlt2
          obtain ⟨u, b2, off2, hg2, hA2, hbl2, hr2, hu1⟩ := (K.out.2.2.2.1.i.below hb).at_ hlt2
          rw [hza] at hA2
          subst hA2
          have K2 := Lib.hid (And.intro hb (And.intro hq (And.intro hg2 (And.intro hu1 hr2))))
          have HLST := Lib.hid (H1.out.2.1.trans ((kp_call K.out.1 hb).mono H1.out.2.2))
          have HR := Lib.hid (And.intro r0 (has_below H1.out.1 (kp_call K.out.1 hb)))
          have l5 : IntKind.i64.wrap ((j : Int) + 1) = ((j + 1 : Nat) : Int) := IntWalk.i64_in _ (by omega)
          have NEXT : Hid ((z.k, u.itm) ≠ (kd, y.itm) → ∀ q v, q < j + 1 → zs[q]? = some v → (z.k, v.itm) ≠ (kd, y.itm)) := fun h q v hq hv => by
            rcases Nat.lt_or_ge q j with h1 | h1
            · exact K2.out.2.1 q v h1 hv
            · obtain rfl : q = j := by omega
              rw [K2.out.2.2.1] at hv
              injection hv with hv
              subst hv
              exact h
          have YES : Hid ((z.k, u.itm) = (kd, y.itm) → decide ((kd, y.itm) ∈ flatK (ls.map LM.lst)) = true) := fun h => decide_eq_true (by
            rw [← h]
            exact (mem_flat _ _ _).2 ⟨z.lst, List.mem_map_of_mem (List.mem_of_getElem? K.out.2.2.1), rfl, lm_item K.out.2.2.2.1 K2.out.2.2.1⟩)
          clear hb hq hg2 hr2 hu1 hbl2 hrr hj
          go_upto_region 8 with (first
            | (with_reducible refine wpList_load_mid rfl _ _ rfl b2 (off2 + j * 17) rfl u.cells _ K2.out.2.2.2.2 Tryd.underlying49 rfl (item_info3 u K2.out.2.2.2.1.o) ?_)
            | (refine wpList_store_row rfl _ _ _ rfl wr.heap.size (itmC u.o u.a u.n u.c) rfl rfl _ _ (has_new wr _) (item_info2 K2.out.2.2.2.1.o _ _ _) (by rw [itmC_size K2.out.2.2.2.1.o]; rfl) (itmC_one _ _ _ _) ?_))
          refine wp_nm fun W2 hW2 => ?_
          go_simp
          have hb2 : Below wr.heap.size wr W2 := by rw [← hW2]; exact below_setRow (kp_alloc (Below.refl _ _) _) (Nat.le_refl _) _
          have k2 : W2.heap[wr.heap.size]? = some (.cells (itmC u.o u.a u.n u.c) 49) := by rw [← hW2]; exact setRow_heap _ _ _ _ _ _ (has_new wr _)
          have ky : W2.heap[w.heap.size]? = some (.cells (itmC y.o y.a y.n y.c) 49) := has_below HR.out.2 hb2
          have c0 : W2.cell? ⟨b, off + i * 2, none⟩ = some (.int .u8 (z.k.toNat : Int)) := kp_cell hb2 HR.out.1
          clear hW2 r0 r1
          have cy := item_cell ky HY.out.o
          have cu := item_cell k2 K2.out.2.2.2.1.o
          have RY := Lib.hid (owner_range ky)
          have RU := Lib.hid (owner_range k2)
          have IY := Lib.hid (guid_info HY.out.o)
          have IU := Lib.hid (guid_info K2.out.2.2.2.1.o)
          have EQ : ∀ W, (Op.equalIn 10000 47 (.agg (y.o.map bv).toArray) (.agg (u.o.map bv).toArray)).run Tryd.prog W = .ok (decide (y.o = u.o)) W := fun W => guid_eq y.o u.o HY.out.o K2.out.2.2.2.1.o W 9998
          obtain ⟨v3, hv3⟩ : ∃ v3, decide (y.o = u.o) = v3 := ⟨_, rfl⟩
          rw [hv3] at EQ
          have HV3 := Lib.hid hv3
          have HB2 := Lib.hid (HLST.out.trans (hb2.mono HLST.out.size))
          have HB3 := Lib.hid (kp_call K2.out.1 hb2)
          obtain ⟨s1, hs1⟩ : ∃ s1, strOf y.d = s1 := ⟨_, rfl⟩
          obtain ⟨s2, hs2⟩ : ∃ s2, strOf u.d = s2 := ⟨_, rfl⟩
          have CV1 : (convert 22 9 (.slice y.a y.n y.c)).run Tryd.prog W2 = .ok (.string s1) W2 := by
            have h8 := HY.out.r.below HB2.out
            have h9 := run_strOf W2 W2.heap.size y.a y.d y.c h8.2
            rw [h8.1, hs1] at h9
            exact h9
          have CV2 : (convert 22 9 (.slice u.a u.n u.c)).run Tryd.prog W2 = .ok (.string s2) W2 := by
            have h8 := K2.out.2.2.2.1.r.below hb2
            have h9 := run_strOf W2 W2.heap.size u.a u.d u.c h8.2
            rw [h8.1, hs2] at h9
            exact h9
          obtain ⟨v4, hv4⟩ : ∃ v4, (s1.toList == s2.toList) = v4 := ⟨_, rfl⟩
          have HV4 : Hid ((y.d == u.d) = v4) := by
            unfold Hid
            rw [← hv4, ← hs1, ← hs2, strOf_toList, strOf_toList]
          clear hs1 hs2 hb2 k2 ky hv3
          by_cases hk : z.k = kd
          · have e1 : ((z.k.toNat : Int) == (kd.toNat : Int)) = true := by rw [hk]; simp
            have e2 : (z.k.toNat == kd.toNat) = true := by rw [hk]; simp
            have HK := Lib.hid hk
            clear hk
            cases v3 with
            | false =>
              have NE : Hid ((z.k, u.itm) ≠ (kd, y.itm)) := fun e => of_decide_eq_false HV3.out (by
                injection e with _ e
                exact (congrArg Prod.fst e).symm)
              clear CV1 CV2 hv4 cy cu
              go_wp2_with (first
                | (refine wpList_load_midG rfl _ _ rfl w.heap.size 0 rfl (y.o.map bv) _ RY.out Tryd.underlying47 rfl IY.out ?_)
                | (refine wpList_load_midG rfl _ _ rfl wr.heap.size 0 rfl (u.o.map bv) _ RU.out Tryd.underlying47 rfl IU.out ?_))
              go_roundw
              case rel => exact ⟨j + 1, rfl, hlt2, HB3.out, NEXT.out NE.out⟩
              case measure => simp [intOf]; omega
            | true =>
              cases v4 with
              | false =>
                have NE : Hid ((z.k, u.itm) ≠ (kd, y.itm)) := fun e => by
                  injection e with _ e
                  have e2 := congrArg Prod.snd e
                  have h1 := HV4.out
                  rw [show y.d = u.d from e2.symm] at h1
                  simp at h1
                have q2 : ¬ s1.toList = s2.toList := fun e => by rw [e] at hv4; simp at hv4
                go_wp2_with (first
                  | (refine wpList_load_midG rfl _ _ rfl w.heap.size 0 rfl (y.o.map bv) _ RY.out Tryd.underlying47 rfl IY.out ?_)
                  | (refine wpList_load_midG rfl _ _ rfl wr.heap.size 0 rfl (u.o.map bv) _ RU.out Tryd.underlying47 rfl IU.out ?_))
                go_roundw
                case rel => exact ⟨j + 1, rfl, hlt2, HB3.out, NEXT.out NE.out⟩
                case measure => simp [intOf]; omega
              | true =>
                have YE : Hid ((z.k, u.itm) = (kd, y.itm)) := Prod.ext HK.out (Prod.ext (of_decide_eq_true HV3.out).symm (eq_of_beq HV4.out).symm)
                go_wp2_with (first
                  | (refine wpList_load_midG rfl _ _ rfl w.heap.size 0 rfl (y.o.map bv) _ RY.out Tryd.underlying47 rfl IY.out ?_)
                  | (refine wpList_load_midG rfl _ _ rfl wr.heap.size 0 rfl (u.o.map bv) _ RU.out Tryd.underlying47 rfl IU.out ?_))
                go_ret
                exact ⟨by rw [YES.out YE.out]; rfl, HB2.out⟩
          · have e0 : z.k.toNat ≠ kd.toNat := fun e => hk (UInt8.toNat_inj.1 e)
            have e1 : ((z.k.toNat : Int) == (kd.toNat : Int)) = false := beq_eq_false_iff_ne.2 (by omega)
            have e2 : (z.k.toNat == kd.toNat) = false := beq_eq_false_iff_ne.2 e0
            have NE : Hid ((z.k, u.itm) ≠ (kd, y.itm)) := fun e => hk (congrArg Prod.fst e)
            clear hk e0 CV1 CV2 hv4 cy cu EQ
            go_wp2
            go_roundw
            case rel => exact ⟨j + 1, rfl, hlt2, HB3.out, NEXT.out NE.out⟩
            case measure => simp [intOf]; omega
        · have hjn : j = z.n := by omega
          have l3 : decide ((j : Int) < (z.n : Int)) = false := decide_eq_false (by omega)
          have l4 : decide (j < z.n) = false := decide_eq_false (by omega)
          have l5 : IntKind.i64.wrap ((i : Int) + 1) = ((i + 1 : Nat) : Int) := IntWalk.i64_in _ (by omega)
          have ALL : Hid (∀ x ∈ z.lst.2, (z.lst.1, x) ≠ (kd, y.itm)) := lm_each K.out.2.2.2.1 (P := fun x => (z.lst.1, x) ≠ (kd, y.itm)) fun q v hq2 hv => hq q v (by omega) hv
          have HB3 := Lib.hid (kp_call K.out.1 hb)
          clear hb hq hge2 hrr hjn
          go_wp2
          go_roundw
          case rel =>
            refine ⟨i + 1, rfl, hlt, HB3.out, fun q v hq hv => ?_⟩
            rcases Nat.lt_or_ge q i with h | h
            · exact K.out.2.1 q v h hv
            · obtain rfl : q = i := by omega
              rw [K.out.2.2.1] at hv
              injection hv with hv
              subst hv
              exact ALL.out
          case measure => simp [intOf]; omega
    · have l1 : decide ((i : Int) < (n : Int)) = false := decide_eq_false (by omega)
      have l2 : decide (i < n) = false := decide_eq_false (by omega)
      have NO : Hid (decide ((kd, y.itm) ∈ flatK (ls.map LM.lst)) = false) := decide_eq_false fun h => by
        obtain ⟨x, hx, h1, h2⟩ := (mem_flat _ _ _).1 h
        have h3 := ls_each HL.out (P := fun x => ∀ v ∈ x.2, (x.1, v) ≠ (kd, y.itm)) (fun j z hj hz2 => hz j z (by omega) hz2) x hx
        exact h3 _ h2 (by rw [h1])
      have HB3 := Lib.hid (H1.out.2.1.trans (hb.mono H1.out.2.2))
      clear hb hz hge hi
      go_wp2
      go_ret
      exact ⟨by rw [NO.out]; rfl, HB3.out⟩
end Go.Proofs.YtfampefflkkckaaDoor

/-
  siglist: SameLists (made by genSi2.py).
-/
import Derived.ChangeKeysEq
import Derived.Deep.WholeRow
import Derived.Test.YtfampefflkkckaaDoorSi2
namespace Go.Proofs.YtfampefflkkckaaDoor
open Go.RowKit Go
set_option linter.unusedVariables false
set_option linter.unusedSimpArgs false
set_option maxRecDepth 100000
theorem guid_eq (gb gb' : List UInt8) (h : gb.length = 16) (h' : gb'.length = 16) (w : World) (d : Nat) : (Op.equalIn (d + 2) 47 (.agg (gb.map bv).toArray) (.agg (gb'.map bv).toArray)).run Tryd.prog w = .ok (decide (gb = gb')) w := by
  obtain ⟨i, hi⟩ : ∃ i, Tryd.prog.info? 5 = some i := by
    obtain ⟨i, hi, _⟩ := info_parts u8_info
    exact ⟨i, hi⟩
  rw [run_equalIn_array w (d + 1) _ _ Tryd.underlying47 hi]
  have c6 : Tryd.prog.cellsOf 5 = 1 := by kernel_rfl
  rw [c6]
  have key : ∀ is : List Nat, (∀ j ∈ is, j < 16) → (Op.eqItems (d + 1) 5 1 (gb.map bv).toArray (gb'.map bv).toArray is).run Tryd.prog w = .ok (is.all fun j => gb[j]? == gb'[j]?) w := by
    intro is
    induction is with
    | nil => intro _; simp [Op.eqItems]
    | cons j is ih =>
      intro hj
      have hj16 : j < 16 := hj j (by simp)
      have hi2 := ih (fun q hq => hj q (by simp [hq]))
      obtain ⟨p, hp⟩ : ∃ p, gb[j]? = some p := ⟨gb[j], List.getElem?_eq_getElem (by omega)⟩
      obtain ⟨q, hq⟩ : ∃ q, gb'[j]? = some q := ⟨gb'[j], List.getElem?_eq_getElem (by omega)⟩
      have e1 : (gb.map bv).toArray[j * 1]? = some (bv p) := by simp [hp]
      have e2 : (gb'.map bv).toArray[j * 1]? = some (bv q) := by simp [hq]
      have r1 := run_part_plain (P := Tryd.prog) w (e := 5) (by kernel_rfl) e1
      have r2 := run_part_plain (P := Tryd.prog) w (e := 5) (by kernel_rfl) e2
      have q1 : (Op.equalIn (d + 1) 5 (bv p) (bv q)).run Tryd.prog w = .ok (decide (p = q)) w := by
        simp [go_sem, Tryd.underlying5]
        rw [Bool.eq_iff_iff, beq_iff_eq, decide_eq_true_iff, u8_same]
      unfold Op.eqItems
      simp only [Sem.run_bind, r1, r2, Result.andThen_ok, q1]
      rw [List.all_cons, hp, hq]
      by_cases hpq : p = q
      · subst hpq
        simpa using hi2
      · have hne : (some p == some q) = false := by simpa using hpq
        rw [hne]
        simp [hpq]
  rw [key _ (by intro j hj; simpa using hj)]
  congr 1
  rw [Bool.eq_iff_iff, List.all_eq_true, decide_eq_true_iff]
  constructor
  · intro hall
    apply List.ext_getElem?
    intro j
    rcases Nat.lt_or_ge j 16 with hj | hj
    · exact beq_iff_eq.1 (hall j (by simpa using hj))
    · rw [List.getElem?_eq_none (by omega), List.getElem?_eq_none (by omega)]
  · intro he j _
    rw [he]
    simp

/-- The statements' own 'same'. -/
theorem quiet_ldm {P : Program} {ops : Array Oper} {C : World → Prop} {Q : Act → Prop} {a : Act} {o : Oper} {rest : List Oper} (hw : Region.wanted o (yielded ops a.tmps) = true) (ty : TypeId) (x : Operand) (ho : o.op = .load ty x) (p : Addr) (hx : a.eval x = .pointer (some p)) (cs : Array Value)
    (hl : ∀ w, C w → (Instr.loadAt ty (.pointer (some p))).run P w = .ok (.agg cs) w) (h : wpQuiet P ops C Q rest (a.put o.dst (.agg cs))) : wpQuiet P ops C Q (o :: rest) a :=
  wpQuiet_step fun K hK => by
    rw [if_pos hw]
    refine ⟨.agg cs, fun w hc => ?_, hK _ h⟩
    unfold Oper.quietAt execOp
    simp only [ho, Sem.run_bind, Sem.run_pure, Result.andThen_ok, hx, hl w hc]
    exact ⟨rfl, rfl⟩
theorem guid_info {o : List UInt8} (h : o.length = 16) : (Tryd.prog.info? 47).map (·.size) = some (o.map bv).length := by
  rw [List.length_map, h]; kernel_rfl
/-- The owner of an item that is read. -/
theorem owner_up {W : World} {b off : Nat} {z : IM} (hr : W.rangeAt b off z.cells) (ho : z.o.length = 16) : ∀ V, (∃ x : Up W, V = x.w) → (Instr.loadAt 47 (.pointer (some ⟨b, off, none⟩))).run Tryd.prog V = .ok (.agg (z.o.map bv).toArray) V := by
  rintro V ⟨x, rfl⟩
  exact run_loadAt_mid x.w b off 47 (z.o.map bv) _ (fun j v hv => Up.cell (hr j v (by
    unfold IM.cells itmC
    rw [List.toList_toArray, List.getElem?_append_left (List.getElem?_eq_some_iff.1 hv).1]; exact hv)) x) Tryd.underlying47 rfl (guid_info ho)
theorem data_cell {W : World} {b off : Nat} {z : IM} (hr : W.rangeAt b off z.cells) (ho : z.o.length = 16) : W.cell? ⟨b, off + 16, none⟩ = some (.slice z.a z.n z.c) :=
  hr 16 _ (by
    unfold IM.cells itmC
    rw [List.toList_toArray, List.getElem?_append_right (by rw [List.length_map]; omega), List.length_map, ho]; rfl)
theorem lists_apart {ls ms : List LM} {i : Nat} {x y : LM} (hx : ls[i]? = some x) (hy : ms[i]? = some y) (h : x.lst ≠ y.lst) : decide (ls.map LM.lst = ms.map LM.lst) = false := decide_eq_false fun e => by
  have e1 := congrArg (·[i]?) e
  simp only [List.getElem?_map, hx, hy, Option.map_some] at e1
  injection e1 with e1
  exact h e1
theorem items_apart {w w' : World} {x y : LM} {xs ys : List IM} (h1 : LmR w x xs) (h2 : LmR w' y ys) {k : Nat} {p q : IM} (hp : xs[k]? = some p) (hq : ys[k]? = some q) (h : p.itm ≠ q.itm) : x.lst ≠ y.lst := fun e => by
  have e0 : x.is = y.is := congrArg Prod.snd e
  rw [← h1.e, ← h2.e] at e0
  have e1 := congrArg (·[k]?) e0
  simp only [List.getElem?_map, hp, hq, Option.map_some] at e1
  injection e1 with e1
  exact h e1
theorem list_ext_at {α β : Type} (f : α → β) (g : List α) (xs ys : List α) (hl : xs.length = ys.length) (h : ∀ i x y, i < xs.length → xs[i]? = some x → ys[i]? = some y → f x = f y) : xs.map f = ys.map f := by
  refine List.ext_getElem? fun i => ?_
  rw [List.getElem?_map, List.getElem?_map]
  rcases Nat.lt_or_ge i xs.length with h1 | h1
  · have e1 : xs[i]? = some xs[i] := List.getElem?_eq_getElem h1
    have e2 : ys[i]? = some (ys[i]'(by omega)) := List.getElem?_eq_getElem (by omega)
    rw [e1, e2, Option.map_some, Option.map_some, h i _ _ h1 e1 e2]
  · rw [List.getElem?_eq_none h1, List.getElem?_eq_none (by omega)]
set_option maxHeartbeats 16000000 in
theorem samelists_any (A : Option Addr) (n c : Nat) (ls : List LM) (B : Option Addr) (m d : Nat) (ms : List LM) (w : World) (hL : ListsZ w A n ls) (hM : ListsZ w B m ms) (hc : n ≤ c) (hcm : c ≤ 9223372036854775807) (hd : m ≤ d) (hdm : d ≤ 9223372036854775807) (hn : n ≤ 100000) (hm : ∀ z ∈ ls, z.n ≤ 2000000) :
    Calls Tryd.prog 16 #[.slice A n c, .slice B m d] w fun e w' => e = .returned (.bool (decide (ls.map LM.lst = ms.map LM.lst))) ∧ Below w.heap.size w w' := by
  have HLen := Lib.hid (And.intro hL.len hM.len)
  by_cases hnm : n = m
  · subst hnm
    have HL := Lib.hid hL
    have HM := Lib.hid hM
    have HB := Lib.hid hm
    have q1 : ((n : Int) != (n : Int)) = false := by simp
    have q2 : (n != n) = false := by simp
    clear hL hM hm
    go_enter Tryd.func16, Tryd.ntmps16
    go_wp2
    clear q1 q2
    go_loopw [5] (fun v wl => ∃ (i : Nat), v = .int .i64 (i : Int) ∧ i ≤ n ∧ Below w.heap.size w wl ∧ Hid (∀ j x y, j < i → ls[j]? = some x → ms[j]? = some y → x.lst = y.lst)) (fun v _ => (n - (intOf v).toNat))
    case atStart => exact ⟨0, rfl, Nat.zero_le _, Below.refl _ _, fun j z z' hj => absurd hj (by omega)⟩
    case round =>
      obtain ⟨i, rfl, hi, hb, hz⟩ := hrel
      rcases Nat.lt_or_ge i n with hlt | hge
      · have l1 : decide ((i : Int) < (n : Int)) = true := decide_eq_true (by omega)
        have l2 : decide (i < n) = true := decide_eq_true hlt
        obtain ⟨x, b, off, hgx, hA, hbl, hrx, xs, hx1⟩ := (HL.out.below hb).at_ hlt
        obtain ⟨y, b', off', hgy, hB, hbl', hry, ys, hy1⟩ := (HM.out.below hb).at_ hlt
        subst hA
        subst hB
        obtain ⟨xa, hxa⟩ : ∃ xa, x.a = xa := ⟨_, rfl⟩
        obtain ⟨ya, hya⟩ : ∃ ya, y.a = ya := ⟨_, rfl⟩
        have r0 : ∀ v : Up wr, v.w.cell? ⟨b, off + i * 2, none⟩ = some (.int .u8 (x.k.toNat : Int)) := Up.cell (hrx 0 _ rfl)
        have r1 : ∀ v : Up wr, v.w.cell? ⟨b, off + i * 2 + 1, none⟩ = some (.slice xa x.n x.c) := Up.cell (by rw [← hxa]; exact hrx 1 _ rfl)
        have s0 : ∀ v : Up wr, v.w.cell? ⟨b', off' + i * 2, none⟩ = some (.int .u8 (y.k.toNat : Int)) := Up.cell (hry 0 _ rfl)
        have s1 : ∀ v : Up wr, v.w.cell? ⟨b', off' + i * 2 + 1, none⟩ = some (.slice ya y.n y.c) := Up.cell (by rw [← hya]; exact hry 1 _ rfl)
        have hxn := HB.out x (List.mem_of_getElem? hgx)
        have K := Lib.hid (And.intro hb (And.intro hz (And.intro hgx (And.intro hgy (And.intro hx1 (And.intro hy1 (And.intro hrx (And.intro hry hb.size))))))))
        clear hb hz hgx hgy hrx hry hx1 hy1 hbl hbl' hi
        go_upto_region 6 with fail
        obtain ⟨wo, hwo⟩ : ∃ wo, wo = wr := ⟨_, rfl⟩
        subst hwo
        by_cases hk : x.k = y.k
        · have hE : x.k.toNat = y.k.toNat := by rw [hk]
          have e1 : ((x.k.toNat : Int) != (y.k.toNat : Int)) = false := by rw [hE]; simp
          have e2 : (x.k.toNat != y.k.toNat) = false := by rw [hE]; simp
          have e3 : ((x.k.toNat : Int) == (y.k.toNat : Int)) = true := by rw [hE]; simp
          have e4 : (x.k.toNat == y.k.toNat) = true := by rw [hE]; simp
          clear hE
          by_cases hE : x.n = y.n
          · have HE := Lib.hid (And.intro hk hE)
            have g1 : ((x.n : Int) != (y.n : Int)) = false := by rw [hE]; simp
            have g2 : (x.n != y.n) = false := by rw [hE]; simp
            have g3 : ((x.n : Int) == (y.n : Int)) = true := by rw [hE]; simp
            have g4 : (x.n == y.n) = true := by rw [hE]; simp
            clear hE hk
            refine wp_region_up (by kernel_rfl) (by kernel_rfl) ?_
            repeat (go_big_quiet_step (fail))
            refine wpQuiet_nil ?_
            rintro _ ⟨v1, rfl⟩
            have HV := Lib.hid v1.b
            clear e1 e2 e3 e4 g1 g2 g3 g4 r0 r1 s0 s1
            go_wp2
            go_loopw [6] (fun v wl => ∃ (k : Nat), v = .int .i64 (k : Int) ∧ k ≤ x.n ∧ Below wo.heap.size wo wl ∧ Hid (∀ q p r, q < k → xs[q]? = some p → ys[q]? = some r → p.itm = r.itm)) (fun v _ => (x.n - (intOf v).toNat))
            case atStart => exact ⟨0, rfl, Nat.zero_le _, HV.out, fun j z z' hj => absurd hj (by omega)⟩
            case round =>
              obtain ⟨k, rfl, hkn, hb, hq⟩ := hrel
              have hrx := range_below K.out.2.2.2.2.2.2.1 hb
              have hry := range_below K.out.2.2.2.2.2.2.2.1 hb
              have r1 : wr.cell? ⟨b, off + i * 2 + 1, none⟩ = some (.slice xa x.n x.c) := by rw [← hxa]; exact hrx 1 _ rfl
              rcases Nat.lt_or_ge k x.n with hlt2 | hge2
              · have l3 : decide ((k : Int) < (x.n : Int)) = true := decide_eq_true (by omega)
                have l4 : decide (k < x.n) = true := decide_eq_true hlt2
                have k4 : k < y.n := by have := HE.out.2; omega
                obtain ⟨p, b3, off3, hp, hA3, hbl3, hr3, hp1⟩ := (K.out.2.2.2.2.1.i.below hb).at_ hlt2
                obtain ⟨r, b4, off4, hr, hA4, hbl4, hr4, hr1⟩ := (K.out.2.2.2.2.2.1.i.below hb).at_ (i := k) k4
                rw [hxa] at hA3
                rw [hya] at hA4
                subst hA3
                subst hA4
                have u1 : ∀ v : Up wr, v.w.cell? ⟨b, off + i * 2 + 1, none⟩ = some (.slice (some ⟨b3, off3, none⟩) x.n x.c) := Up.cell r1
                have u2 : ∀ v : Up wr, v.w.cell? ⟨b', off' + i * 2 + 1, none⟩ = some (.slice (some ⟨b4, off4, none⟩) y.n y.c) := Up.cell (by rw [← hya]; exact hry 1 _ rfl)
                have u3 : ∀ v : Up wr, v.w.cell? ⟨b3, off3 + k * 17 + 16, none⟩ = some (.slice p.a p.n p.c) := Up.cell (data_cell hr3 hp1.o)
                have u4 : ∀ v : Up wr, v.w.cell? ⟨b4, off4 + k * 17 + 16, none⟩ = some (.slice r.a r.n r.c) := Up.cell (data_cell hr4 hr1.o)
                have O1 := Lib.hid (owner_up hr3 hp1.o)
                have O2 := Lib.hid (owner_up hr4 hr1.o)
                have C : Hid (∀ v : Up wr, Calls Tryd.prog 13 #[.slice p.a p.n p.c, .slice r.a r.n r.c] v.w fun e w' => e = .returned (.bool (p.d == r.d)) ∧ v.w = w') := fun v => same_any _ _ _ _ _ _ _ _ _ (hp1.r.below v.b) (hr1.r.below v.b)
                have EQ : ∀ W, (Op.equalIn 10000 47 (.agg (p.o.map bv).toArray) (.agg (r.o.map bv).toArray)).run Tryd.prog W = .ok (decide (p.o = r.o)) W := fun W => guid_eq p.o r.o hp1.o hr1.o W 9998
                have K2 := Lib.hid (And.intro hb (And.intro hq (And.intro hp hr)))
                have NO : Hid (p.itm ≠ r.itm → decide (ls.map LM.lst = ms.map LM.lst) = false) := fun h => lists_apart K.out.2.2.1 K.out.2.2.2.1 (items_apart K.out.2.2.2.2.1 K.out.2.2.2.2.2.1 hp hr h)
                generalize (p.o.map bv).toArray = pc at *
                generalize (r.o.map bv).toArray = rc at *
                clear hb hq hp hr hr3 hr4 hp1 hr1 hrx hry hbl3 hbl4 hkn
                obtain ⟨v2, hv2⟩ : ∃ v2, (p.d == r.d) = v2 := ⟨_, rfl⟩
                rw [hv2] at C
                have HV2 := Lib.hid hv2
                clear hv2
                obtain ⟨v3, hv3⟩ : ∃ v3, decide (p.o = r.o) = v3 := ⟨_, rfl⟩
                rw [hv3] at EQ
                have HV3 := Lib.hid hv3
                clear hv3
                go_upto_region 11 with fail
                clear r1
                cases v3 with
                | false =>
                  refine wp_region_up (by kernel_rfl) (by kernel_rfl) ?_
                  repeat (first | go_big_quiet_step (fail) | (refine quiet_ldm rfl _ _ rfl ⟨b3, off3 + k * 17, none⟩ rfl pc O1.out ?_; simp only [Act.put, List.setIfInBounds_toArray, List.set_cons_zero, List.set_cons_succ]) | (refine quiet_ldm rfl _ _ rfl ⟨b4, off4 + k * 17, none⟩ rfl rc O2.out ?_; simp only [Act.put, List.setIfInBounds_toArray, List.set_cons_zero, List.set_cons_succ]))
                  refine wpQuiet_nil ?_
                  rintro _ ⟨v1, rfl⟩
                  go_wp2
                  go_ret
                  exact ⟨by rw [NO.out (fun e => of_decide_eq_false HV3.out (congrArg Prod.fst e))]; rfl, kp_call (kp_call K.out.1 K2.out.1) v1.b⟩
                | true =>
                  refine wp_region_up (by kernel_rfl) (by kernel_rfl) ?_
                  repeat (first | go_big_quiet_step (first | (go_at_call 13; with_reducible exact Up.same (C.out _))) | (refine quiet_ldm rfl _ _ rfl ⟨b3, off3 + k * 17, none⟩ rfl pc O1.out ?_; simp only [Act.put, List.setIfInBounds_toArray, List.set_cons_zero, List.set_cons_succ]) | (refine quiet_ldm rfl _ _ rfl ⟨b4, off4 + k * 17, none⟩ rfl rc O2.out ?_; simp only [Act.put, List.setIfInBounds_toArray, List.set_cons_zero, List.set_cons_succ]))
                  refine wpQuiet_nil ?_
                  rintro _ ⟨v1, rfl⟩
                  have l5 : IntKind.i64.wrap ((k : Int) + 1) = ((k + 1 : Nat) : Int) := IntWalk.i64_in _ (by omega)
                  cases v2 with
                  | false =>
                    go_wp2
                    go_ret
                    exact ⟨by rw [NO.out (fun e => by have e2 := HV2.out; rw [show p.d = r.d from congrArg Prod.snd e] at e2; simp at e2)]; rfl, kp_call (kp_call K.out.1 K2.out.1) v1.b⟩
                  | true =>
                    go_wp2
                    go_roundw
                    case rel =>
                      refine ⟨k + 1, rfl, hlt2, kp_call K2.out.1 v1.b, fun q p' r' hq hp' hr' => ?_⟩
                      rcases Nat.lt_or_ge q k with h | h
                      · exact K2.out.2.1 q p' r' h hp' hr'
                      · obtain rfl : q = k := by omega
                        rw [K2.out.2.2.1] at hp'
                        rw [K2.out.2.2.2] at hr'
                        injection hp' with hp'
                        injection hr' with hr'
                        subst hp'
                        subst hr'
                        exact Prod.ext (of_decide_eq_true HV3.out) (eq_of_beq HV2.out)
                    case measure => simp [intOf]; omega
              · have hkm : k = x.n := by omega
                have l3 : decide ((k : Int) < (x.n : Int)) = false := decide_eq_false (by omega)
                have l4 : decide (k < x.n) = false := decide_eq_false (by omega)
                have l5 : IntKind.i64.wrap ((i : Int) + 1) = ((i + 1 : Nat) : Int) := IntWalk.i64_in _ (by omega)
                have SAME : Hid (x.lst = y.lst) := by
                  refine Prod.ext HE.out.1 ?_
                  show x.is = y.is
                  rw [← K.out.2.2.2.2.1.e, ← K.out.2.2.2.2.2.1.e]
                  refine list_ext_at IM.itm [] xs ys (by rw [K.out.2.2.2.2.1.i.len, K.out.2.2.2.2.2.1.i.len]; exact HE.out.2) fun q p r hq' hp hr => hq q p r (by rw [K.out.2.2.2.2.1.i.len] at hq'; omega) hp hr
                have HB2 := Lib.hid (kp_call K.out.1 hb)
                clear hb hq hge2 hrx hry hkm
                go_wp2
                go_roundw
                case rel =>
                  refine ⟨i + 1, rfl, hlt, HB2.out, fun q p' r' hq hp' hr' => ?_⟩
                  rcases Nat.lt_or_ge q i with h | h
                  · exact K.out.2.1 q p' r' h hp' hr'
                  · obtain rfl : q = i := by omega
                    rw [K.out.2.2.1] at hp'
                    rw [K.out.2.2.2.1] at hr'
                    injection hp' with hp'
                    injection hr' with hr'
                    subst hp'
                    subst hr'
                    exact SAME.out
                case measure => simp [intOf]; omega
          · have NO := Lib.hid (lists_apart K.out.2.2.1 K.out.2.2.2.1 (fun e => hE (by
              have e0 : x.is = y.is := congrArg Prod.snd e
              rw [← K.out.2.2.2.2.1.e, ← K.out.2.2.2.2.2.1.e] at e0
              have e1 := congrArg List.length e0
              rw [List.length_map, List.length_map, K.out.2.2.2.2.1.i.len, K.out.2.2.2.2.2.1.i.len] at e1
              exact e1)))
            have g1 : ((x.n : Int) != (y.n : Int)) = true := bne_iff_ne.2 (by omega)
            have g2 : (x.n != y.n) = true := bne_iff_ne.2 hE
            have g3 : ((x.n : Int) == (y.n : Int)) = false := beq_eq_false_iff_ne.2 (by omega)
            have g4 : (x.n == y.n) = false := beq_eq_false_iff_ne.2 hE
            clear hE hk
            refine wp_region_up (by kernel_rfl) (by kernel_rfl) ?_
            repeat (go_big_quiet_step (fail))
            refine wpQuiet_nil ?_
            rintro _ ⟨v1, rfl⟩
            go_wp2
            go_ret
            exact ⟨by rw [NO.out]; rfl, kp_call K.out.1 v1.b⟩
        · have NO := Lib.hid (lists_apart K.out.2.2.1 K.out.2.2.2.1 (fun e => hk (congrArg Prod.fst e)))
          have hE : x.k.toNat ≠ y.k.toNat := fun h => hk (UInt8.toNat_inj.1 h)
          have e1 : ((x.k.toNat : Int) != (y.k.toNat : Int)) = true := bne_iff_ne.2 (by omega)
          have e2 : (x.k.toNat != y.k.toNat) = true := bne_iff_ne.2 hE
          have e3 : ((x.k.toNat : Int) == (y.k.toNat : Int)) = false := beq_eq_false_iff_ne.2 (by omega)
          have e4 : (x.k.toNat == y.k.toNat) = false := beq_eq_false_iff_ne.2 hE
          clear hE hk
          refine wp_region_up (by kernel_rfl) (by kernel_rfl) ?_
          repeat (go_big_quiet_step (fail))
          refine wpQuiet_nil ?_
          rintro _ ⟨v1, rfl⟩
          go_wp2
          go_ret
          exact ⟨by rw [NO.out]; rfl, kp_call K.out.1 v1.b⟩
      · have l1 : decide ((i : Int) < (n : Int)) = false := decide_eq_false (by omega)
        have l2 : decide (i < n) = false := decide_eq_false (by omega)
        have hin : i = n := by omega
        have SAME : Hid (ls.map LM.lst = ms.map LM.lst) := list_ext_at LM.lst [] ls ms (by rw [HLen.out.1, HLen.out.2]) fun q p r hq' hp hr => hz q p r (by rw [HLen.out.1] at hq'; omega) hp hr
        have HB2 := Lib.hid hb
        clear hb hz hge hin
        go_wp2
        go_ret
        exact ⟨by rw [decide_eq_true SAME.out]; rfl, HB2.out⟩
  · have q1 : ((n : Int) != (m : Int)) = true := bne_iff_ne.2 (by omega)
    have q2 : (n != m) = true := bne_iff_ne.2 hnm
    have NO : Hid (decide (ls.map LM.lst = ms.map LM.lst) = false) := decide_eq_false fun e => hnm (by
      have e1 := congrArg List.length e
      rw [List.length_map, List.length_map, hL.len, hM.len] at e1
      exact e1)
    clear hL hM hm
    go_enter Tryd.func16, Tryd.ntmps16
    go_wp2
    go_ret
    exact ⟨by rw [NO.out]; rfl, Below.refl _ _⟩
end Go.Proofs.YtfampefflkkckaaDoor

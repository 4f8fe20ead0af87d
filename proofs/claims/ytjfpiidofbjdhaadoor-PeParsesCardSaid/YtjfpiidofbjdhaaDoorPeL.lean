/-
  pe: the shape of an image in memory; the order in which its bodies lie.
-/
import Derived.Test.YtjfpiidofbjdhaaDoorPeK
namespace Go.Proofs.YtjfpiidofbjdhaaDoor
open Go.RowKit Go
set_option linter.unusedVariables false
set_option maxRecDepth 100000
theorem int_row : RowT 37 3 1 8 (.int .i64 0) := ⟨Tryd.underlying37, by kernel_rfl, rfl, by decide⟩
theorem bool_row : RowT 96 4 1 1 (.bool false) := ⟨Tryd.underlying96, by kernel_rfl, rfl, by decide⟩
theorem ownR_at {w : World} {base e k : Nat} {g n c : Nat} {vs : List Value} {j : Nat} {u : Value} (h : OwnR w base e k (some ⟨g, 0, none⟩) n c vs) (hu : vs[j]? = some u) : w.cell? ⟨g, j, none⟩ = some u := by
  obtain ⟨b, off, e, _, hc⟩ := h.reads.at_ hu
  injection e with e
  injection e with e1 e2
  subst e1
  subst e2
  simpa using hc
/-- A shape in memory. -/
structure Shp where
  plus : Bool
  sA : Option Addr
  sn : Nat
  sc : Nat
  stub : List UInt8
  fA : Option Addr
  fn : Nat
  fc : Nat
  fill : List UInt8
  bA : Option Addr
  bn : Nat
  bc : Nat
  bod : List Own1
  oA : Option Addr
  on : Nat
  oc : Nat
  ord : List Int
  hA : Option Addr
  hn : Nat
  hc : Nat
  beh : List UInt8
  gA : Option Addr
  gn : Nat
  gc : Nat
  sig : List Own1
def Shp.cells (x : Shp) : Array Value := #[.bool x.plus, .slice x.sA x.sn x.sc, .slice x.fA x.fn x.fc, .slice x.bA x.bn x.bc, .slice x.oA x.on x.oc, .slice x.hA x.hn x.hc, .slice x.gA x.gn x.gc]
structure Shp.R (w : World) (x : Shp) : Prop where
  s : RB w x.sA x.sn x.stub
  f : RB w x.fA x.fn x.fill
  b : RowsR w x.bA x.bn x.bod
  ol : x.ord.length = x.on
  o : ReadR w x.oA (x.ord.map (Value.int .i64))
  h : RB w x.hA x.hn x.beh
  g : RowsR w x.gA x.gn x.sig
theorem Shp.R.below {w w' : World} {x : Shp} (h : x.R w) (hb : Below w.heap.size w w') : x.R w' :=
  ⟨h.s.below hb, h.f.below hb, h.b.below hb, h.ol, h.o.below hb (Nat.le_refl _), h.h.below hb, h.g.below hb⟩
/-- One more place, if it is one and was not yet. -/
def ordStep (nb : Nat) (out : List Nat) (k : Int) : List Nat := if 0 ≤ k ∧ k < (nb : Int) ∧ out.contains k.toNat = false then out ++ [k.toNat] else out
def ordAll (nb : Nat) (l : List Int) : List Int := l ++ (List.range nb).map fun i : Nat => (i : Int)
/-- The order in which bodies lie. -/
def ordL (nb : Nat) (l : List Int) : List Nat := (ordAll nb l).foldl (ordStep nb) []
theorem ordAll_len (nb : Nat) (l : List Int) : (ordAll nb l).length = l.length + nb := by simp [ordAll]
theorem ordAll_lo (nb : Nat) (l : List Int) (i : Nat) (h : i < l.length) : (ordAll nb l)[i]? = l[i]? := List.getElem?_append_left h
theorem ordAll_hi (nb : Nat) (l : List Int) (i : Nat) (h : l.length ≤ i) (h2 : i < l.length + nb) : (ordAll nb l)[i]? = some ((i - l.length : Nat) : Int) := by
  unfold ordAll
  rw [List.getElem?_append_right h, List.getElem?_map, List.getElem?_range (by omega)]
  rfl
theorem fold_take {α β : Type} (f : β → α → β) (l : List α) (b : β) (i : Nat) (x : α) (hx : l[i]? = some x) : (l.take (i + 1)).foldl f b = f ((l.take i).foldl f b) x := by
  rw [List.take_add_one, hx, List.foldl_append]
  rfl
theorem ordStep_lt (nb : Nat) (out : List Nat) (k : Int) (h : ∀ x ∈ out, x < nb) : ∀ x ∈ ordStep nb out k, x < nb := by
  unfold ordStep
  split
  · rename_i hk
    intro x hx
    rcases List.mem_append.1 hx with hx | hx
    · exact h x hx
    · rw [List.mem_singleton.1 hx]; omega
  · exact h
theorem fold_inv {α β : Type} (f : β → α → β) (P : β → Prop) (h : ∀ b x, P b → P (f b x)) : ∀ (l : List α) (b : β), P b → P (l.foldl f b)
  | [], b, hb => hb
  | x :: r, b, hb => fold_inv f P h r _ (h b x hb)
/-- Which bodies were told by now. -/
def seenL (nb : Nat) (out : List Nat) : List Value := (List.range nb).map fun j => Value.bool (out.contains j)
theorem seen_at (nb : Nat) (out : List Nat) (j : Nat) (h : j < nb) : (seenL nb out)[j]? = some (.bool (out.contains j)) := by
  unfold seenL
  rw [List.getElem?_map, List.getElem?_range h]
  rfl
theorem seen_len (nb : Nat) (out : List Nat) : (seenL nb out).length = nb := by simp [seenL]
theorem seen_set (nb : Nat) (out : List Nat) (k : Nat) (h : k < nb) : (seenL nb out).set k (.bool true) = seenL nb (out ++ [k]) := by
  apply List.ext_getElem?
  intro j
  rw [List.getElem?_set, seen_len]
  by_cases hj : k = j
  · subst hj
    rw [if_pos rfl, if_pos h, seen_at _ _ _ h]
    simp
  · rw [if_neg hj]
    by_cases hj2 : j < nb
    · rw [seen_at _ _ _ hj2, seen_at _ _ _ hj2]
      congr 2
      rw [List.contains_append]
      have : [k].contains j = false := by simp; omega
      rw [this, Bool.or_false]
    · rw [List.getElem?_eq_none (by rw [seen_len]; omega), List.getElem?_eq_none (by rw [seen_len]; omega)]
theorem ordL_lt (nb : Nat) (l : List Int) (i : Nat) : ∀ x ∈ (((ordAll nb l).take i).foldl (ordStep nb) []), x < nb :=
  fold_inv (ordStep nb) (fun b => ∀ x ∈ b, x < nb) (fun b x h => ordStep_lt nb b x h) _ [] (fun x hx => by cases hx)
theorem ordStep_len (nb : Nat) (out : List Nat) (k : Int) : (ordStep nb out k).length ≤ out.length + 1 := by
  unfold ordStep
  split <;> simp
theorem ordL_len (nb : Nat) (l : List Int) : ∀ i, (((ordAll nb l).take i).foldl (ordStep nb) []).length ≤ i
  | 0 => by simp
  | i + 1 => by
    by_cases h : i < (ordAll nb l).length
    · rw [fold_take _ _ _ _ _ (List.getElem?_eq_getElem h)]
      exact Nat.le_trans (ordStep_len _ _ _) (Nat.succ_le_succ (ordL_len nb l i))
    · have h1 := ordL_len nb l i
      rw [List.take_of_length_le (by omega)] at h1
      rw [List.take_of_length_le (by omega)]
      omega
set_option maxHeartbeats 4000000 in
theorem order_any (x : Shp) (w : World) (hR : x.R w) (hon : x.on ≤ 1000) (hbn : x.bn ≤ 1000) (hoi : ∀ z ∈ x.ord, -9223372036854775808 ≤ z ∧ z ≤ 9223372036854775807) :
    Calls Tryd.prog 36 #[.agg x.cells] w fun e w' => ∃ (A : Option Addr) (n c : Nat), e = .returned (.slice A n c) ∧ n = (ordL x.bn x.ord).length ∧ OwnR w' w.heap.size 3 1 A n c ((ordL x.bn x.ord).map fun k => Value.int .i64 (k : Nat)) ∧ Below w.heap.size w w' := by
  have HR := Lib.hid hR.o
  have HOL := Lib.hid hR.ol
  obtain ⟨plus, sA, sn, sc, stub, fA, fn, fc, fill, bA, bn, bc, bod, oA, on, oc, ord, hA, hn, hc, beh, gA, gn, gc, sig⟩ := x
  dsimp only [Shp.cells] at *
  have HOI := Lib.hid hoi
  clear hR hoi
  go_enter Tryd.func36, Tryd.ntmps36
  have hkx : (w.alloc (.cells #[.bool plus, .slice sA sn sc, .slice fA fn fc, .slice bA bn bc, .slice oA on oc, .slice hA hn hc, .slice gA gn gc] 39)).heap[w.heap.size]? = some (.cells #[.bool plus, .slice sA sn sc, .slice fA fn fc, .slice bA bn bc, .slice oA on oc, .slice hA hn hc, .slice gA gn gc] 39) := has_new w _
  go_upto_region 2 with (fail)
  refine wp_nm fun W0 hW0 => ?_
  have k0 : W0.heap[w.heap.size]? = some (.cells #[.bool plus, .slice sA sn sc, .slice fA fn fc, .slice bA bn bc, .slice oA on oc, .slice hA hn hc, .slice gA gn gc] 39) := by rw [← hW0]; exact has_new w _
  have hb0 : Below w.heap.size w W0 := by rw [← hW0]; exact kp_alloc (Below.refl _ _) _
  have hs0 : w.heap.size + 1 = W0.heap.size := by rw [← hW0]; simp
  clear hW0 hkx
  obtain ⟨x0, x1, x2, x3, x4, x5, x6⟩ := cells_7 k0
  have H0 := Lib.hid (And.intro k0 (And.intro hb0 hs0))
  clear k0 hb0 hs0
  go_wp2_with (refine wpList_mkR bool_row _ _ rfl rfl _ _ _ _ bn rfl rfl rfl rfl (by unfold maxLen; omega) (by omega) ?_)
  intro w1 ho1 hg1
  have ho1' : OwnR w1 W0.heap.size 4 1 (some ⟨W0.heap.size, 0, none⟩) bn bn (seenL bn []) := by
    rw [show seenL bn [] = (madeCells #[Value.bool false] bn).toList by
      unfold seenL
      rw [toList_madeCells_one]
      apply List.ext_getElem?
      intro t
      rw [List.getElem?_map, List.getElem?_replicate]
      by_cases ht : t < bn
      · rw [List.getElem?_range ht, if_pos ht]; rfl
      · rw [if_neg ht, List.getElem?_eq_none (by simp; omega)]; rfl]
    exact ho1
  have hz1 : W0.heap.size < w1.heap.size := (ho1'.blk_lt rfl).2
  obtain ⟨g2, hg2⟩ : ∃ g2, W0.heap.size = g2 := ⟨_, rfl⟩
  rw [hg2] at ho1' hz1
  have hwg : w.heap.size < g2 := by have := H0.out.2.2; omega
  have H1 : Hid (w1.heap[w.heap.size]? = some (.cells #[.bool plus, .slice sA sn sc, .slice fA fn fc, .slice bA bn bc, .slice oA on oc, .slice hA hn hc, .slice gA gn gc] 39) ∧ Below w.heap.size w w1 ∧ OwnR w1 (w.heap.size + 1) 4 1 (some ⟨g2, 0, none⟩) bn bn (seenL bn [])) :=
    ⟨(hg1.block _ (block_lt H0.out.1) (fun e => by cases e)).trans H0.out.1, H0.out.2.1.grown hg1 H0.out.2.1.size (fun k hk => by cases hk), ho1'.lower (by omega)⟩
  have HG2 := Lib.hid hg2
  rw [hg2]
  clear ho1 ho1' hg1 hg2 x0 x1 x2 x3 x4 x5 x6 H0
  go_wp2_with (fail)
  go_loopw [3, 5] (fun vo vi wl => ∃ (i m c : Nat) (V : Option Addr), vo = .slice V m c ∧ vi = .int .i64 (i : Int) ∧ i ≤ on + bn ∧ Hid (m = (((ordAll bn ord).take i).foldl (ordStep bn) []).length) ∧ Hid (wl.heap[w.heap.size]? = some (.cells #[.bool plus, .slice sA sn sc, .slice fA fn fc, .slice bA bn bc, .slice oA on oc, .slice hA hn hc, .slice gA gn gc] 39)) ∧ Hid (Below w.heap.size w wl) ∧
      Hid (OwnR wl (w.heap.size + 1) 4 1 (some ⟨g2, 0, none⟩) bn bn (seenL bn (((ordAll bn ord).take i).foldl (ordStep bn) []))) ∧ Hid (OwnR wl (w.heap.size + 1) 3 1 V m c ((((ordAll bn ord).take i).foldl (ordStep bn) []).map fun k => Value.int .i64 (k : Nat)))) (fun _ vi _ => on + bn - (intOf vi).toNat)
  case atStart => exact ⟨0, 0, 0, none, rfl, rfl, Nat.zero_le _, rfl, H1.out.1, H1.out.2.1, H1.out.2.2, OwnR.nil _ _ _ _⟩
  case round =>
    obtain ⟨i, m, c, V, rfl, rfl, hi, HM, HX, HB, HS, HO⟩ := hrel
    have hml : m ≤ i := by have := HM.out; have := ordL_len bn ord i; omega
    obtain ⟨x0, x1, x2, x3, x4, x5, x6⟩ := cells_7 HX.out
    by_cases hlt : i < on + bn
    · have i1 : decide ((i : Int) < (on : Int) + (bn : Int)) = true := by simp; omega
      have e3 : IntKind.i64.wrap ((i : Int) + 1) = (i : Int) + 1 := IntWalk.i64_in _ (by omega)
      have hol := HOL.out
      obtain ⟨z, hz⟩ : ∃ z, (ordAll bn ord)[i]? = some z := ⟨_, List.getElem?_eq_getElem (by rw [ordAll_len]; omega)⟩
      have HF := Lib.hid (fold_take (ordStep bn) (ordAll bn ord) [] i z hz)
      obtain ⟨out, hout⟩ : ∃ out, ((ordAll bn ord).take i).foldl (ordStep bn) [] = out := ⟨_, rfl⟩
      have hlo := ordL_lt bn ord i
      rw [hout] at HM HS HO HF hlo
      clear hout
      by_cases hlo2 : i < on
      · have i2 : decide ((i : Int) < (on : Int)) = true := by simp; omega
        rw [ordAll_lo _ _ _ (by omega)] at hz
        obtain ⟨b, off, hoA, hbw, ck⟩ := HR.out.at_ (j := i) (u := .int .i64 z) (by rw [List.getElem?_map, hz]; rfl)
        have ck := kp_cell HB.out ck
        have hzb := HOI.out z (List.mem_of_getElem? hz)
        have e6 : IntKind.i64.wrap ((i : Int) - (on : Int)) = (i : Int) - (on : Int) := IntWalk.i64_in _ (by omega)
        subst hoA
        clear hz hbw
        by_cases hz0 : 0 ≤ z
        · obtain ⟨k, rfl⟩ : ∃ k : Nat, z = (k : Int) := ⟨z.toNat, by omega⟩
          have u1 : decide ((0 : Int) ≤ (k : Int)) = true := by simp
          by_cases hkb : k < bn
          · have u2 : decide ((k : Int) < (bn : Int)) = true := by simp; omega
            have d1 := ownR_at HS.out (seen_at bn out k hkb)
            have d2 := HS.out.free k
            cases hc9 : out.contains k with
            | true =>
              rw [hc9] at d1
              have HSAME : Hid (ordStep bn out (k : Int) = out) := by
                show ordStep _ _ _ = _
                unfold ordStep
                rw [if_neg (by rintro ⟨_, _, h⟩; simp only [Int.toNat_natCast] at h; rw [hc9] at h; cases h)]
              clear d2 hc9 hz0
              go_wp2_with (fail)
              go_roundw
              case rel => exact ⟨i + 1, m, c, V, by go_num, by go_num, by omega, by rw [HF.out, HSAME.out]; exact HM, HX, HB, by rw [HF.out, HSAME.out]; exact HS, by rw [HF.out, HSAME.out]; exact HO⟩
              case measure => simp [intOf]; omega
            | false =>
              rw [hc9] at d1
              have HSAME : Hid (ordStep bn out (k : Int) = out ++ [k]) := by
                show ordStep _ _ _ = _
                unfold ordStep
                rw [if_pos ⟨by omega, by omega, by simpa using hc9⟩]
                simp
              have hwb := HB.out.size
              have hxl := block_lt HX.out
              clear hc9 hz0
              go_wp2_with (at_builtin; refine wpList_appL int_row _ _ rfl rfl rfl (w.heap.size + 1) V m c _ rfl (HO.out.alloc _) _ 1 1 #[.int .i64 (k : Nat)] (0, 0) rfl (has_new _ _) rfl (by intro u hu; simp at hu; subst hu; rfl) (by unfold maxLen; omega) (by omega) (by simp; omega) ?_; intro V' c' w4 ho4 hg4; have hne4 := (OwnR.ne HS.out HO.out (by decide)); have HS4 := Lib.hid (OwnR.kept (HS.out.alloc (.cells #[.int .i64 (k : Nat)] 3)) hg4 hne4); have d3 := ownR_at HS4.out (seen_at bn out k hkb); have d4 := HS4.out.free k; have HX4 : Hid (w4.heap[w.heap.size]? = _) := (hg4.block _ (by simp; omega) (fun e => by have := (HO.out.blk_lt e.symm).1; omega)).trans (has_alloc HX.out _); have HB4 := Lib.hid ((kp_alloc HB.out (.cells #[.int .i64 (k : Nat)] 3)).grown hg4 (by simp; omega) (fun q hq => by have := (HO.out.blk_lt hq).1; omega)); have HO4 := Lib.hid ho4; clear ho4 hg4 hne4 d1 d2 HX HB HS HO)
              have HS5 : Hid (OwnR (w4.setCell ⟨g2, k, none⟩ (.bool true)) (w.heap.size + 1) 4 1 (some ⟨g2, 0, none⟩) bn bn (seenL bn (out ++ [k]))) := by
                have h1 := HS4.out.stored k (.bool true)
                rw [seen_set bn out k hkb] at h1
                exact h1
              have HO5 : Hid (OwnR (w4.setCell ⟨g2, k, none⟩ (.bool true)) (w.heap.size + 1) 3 1 V' (m + 1) c' ((out ++ [k]).map fun k => Value.int .i64 (k : Nat))) := by
                have h1 := HO4.out.kept (grown_one w4 g2 k (.bool true)) (OwnR.ne HO4.out HS4.out (by decide))
                refine Lib.hid ?_
                simpa using h1
              have HX5 : Hid ((w4.setCell ⟨g2, k, none⟩ (.bool true)).heap[w.heap.size]? = _) := (heap_set_far _ _ _ _ _ (by omega)).trans HX4.out
              have HB5 := Lib.hid (kp_set HB4.out (k := g2) (j := k) (u := .bool true) (by omega))
              clear HS4 HX4 HB4 HO4 d3 d4
              go_wp2_with (fail)
              go_roundw
              case rel => exact ⟨i + 1, m + 1, c', V', by go_num, by go_num, by omega, by have := HM.out; rw [HF.out, HSAME.out]; unfold Hid; simp; omega, HX5, HB5, by rw [HF.out, HSAME.out]; exact HS5, by rw [HF.out, HSAME.out]; exact HO5⟩
              case measure => simp [intOf]; omega
          · have u2 : decide ((k : Int) < (bn : Int)) = false := by simp; omega
            have HSAME : Hid (ordStep bn out (k : Int) = out) := by
              show ordStep _ _ _ = _
              unfold ordStep
              rw [if_neg (by rintro ⟨_, h, _⟩; omega)]
            clear hz0
            go_wp2_with (fail)
            go_roundw
            case rel => exact ⟨i + 1, m, c, V, by go_num, by go_num, by omega, by rw [HF.out, HSAME.out]; exact HM, HX, HB, by rw [HF.out, HSAME.out]; exact HS, by rw [HF.out, HSAME.out]; exact HO⟩
            case measure => simp [intOf]; omega
        · have u1 : decide ((0 : Int) ≤ z) = false := by simp; omega
          have HSAME : Hid (ordStep bn out z = out) := by
            show ordStep _ _ _ = _
            unfold ordStep
            rw [if_neg (by rintro ⟨h, _, _⟩; omega)]
          go_wp2_with (fail)
          go_roundw
          case rel => exact ⟨i + 1, m, c, V, by go_num, by go_num, by omega, by rw [HF.out, HSAME.out]; exact HM, HX, HB, by rw [HF.out, HSAME.out]; exact HS, by rw [HF.out, HSAME.out]; exact HO⟩
          case measure => simp [intOf]; omega
      · have i2 : decide ((i : Int) < (on : Int)) = false := by simp; omega
        rw [ordAll_hi _ _ _ (by omega) (by omega)] at hz
        obtain ⟨k, hk9⟩ : ∃ k, i - on = k := ⟨_, rfl⟩
        rw [hol, hk9] at hz
        obtain rfl : (k : Int) = z := by injection hz
        have hkb : k < bn := by omega
        have e6 : (i : Int) - (on : Int) = (k : Int) := by omega
        clear hz hk9
        have u1 : decide ((0 : Int) ≤ (k : Int)) = true := by simp
        have u2 : decide ((k : Int) < (bn : Int)) = true := by simp; omega
        have d1 := ownR_at HS.out (seen_at bn out k hkb)
        have d2 := HS.out.free k
        cases hc9 : out.contains k with
        | true =>
          rw [hc9] at d1
          have HSAME : Hid (ordStep bn out (k : Int) = out) := by
            show ordStep _ _ _ = _
            unfold ordStep
            rw [if_neg (by rintro ⟨_, _, h⟩; simp only [Int.toNat_natCast] at h; rw [hc9] at h; cases h)]
          clear d2 hc9
          go_wp2_with (fail)
          go_roundw
          case rel => exact ⟨i + 1, m, c, V, by go_num, by go_num, by omega, by rw [HF.out, HSAME.out]; exact HM, HX, HB, by rw [HF.out, HSAME.out]; exact HS, by rw [HF.out, HSAME.out]; exact HO⟩
          case measure => simp [intOf]; omega
        | false =>
          rw [hc9] at d1
          have HSAME : Hid (ordStep bn out (k : Int) = out ++ [k]) := by
            show ordStep _ _ _ = _
            unfold ordStep
            rw [if_pos ⟨by omega, by omega, by simpa using hc9⟩]
            simp
          have hwb := HB.out.size
          have hxl := block_lt HX.out
          clear hc9
          go_wp2_with (at_builtin; refine wpList_appL int_row _ _ rfl rfl rfl (w.heap.size + 1) V m c _ rfl (HO.out.alloc _) _ 1 1 #[.int .i64 (k : Nat)] (0, 0) rfl (has_new _ _) rfl (by intro u hu; simp at hu; subst hu; rfl) (by unfold maxLen; omega) (by omega) (by simp; omega) ?_; intro V' c' w4 ho4 hg4; have hne4 := (OwnR.ne HS.out HO.out (by decide)); have HS4 := Lib.hid (OwnR.kept (HS.out.alloc (.cells #[.int .i64 (k : Nat)] 3)) hg4 hne4); have d3 := ownR_at HS4.out (seen_at bn out k hkb); have d4 := HS4.out.free k; have HX4 : Hid (w4.heap[w.heap.size]? = _) := (hg4.block _ (by simp; omega) (fun e => by have := (HO.out.blk_lt e.symm).1; omega)).trans (has_alloc HX.out _); have HB4 := Lib.hid ((kp_alloc HB.out (.cells #[.int .i64 (k : Nat)] 3)).grown hg4 (by simp; omega) (fun q hq => by have := (HO.out.blk_lt hq).1; omega)); have HO4 := Lib.hid ho4; clear ho4 hg4 hne4 d1 d2 HX HB HS HO)
          have HS5 : Hid (OwnR (w4.setCell ⟨g2, k, none⟩ (.bool true)) (w.heap.size + 1) 4 1 (some ⟨g2, 0, none⟩) bn bn (seenL bn (out ++ [k]))) := by
            have h1 := HS4.out.stored k (.bool true)
            rw [seen_set bn out k hkb] at h1
            exact h1
          have HO5 : Hid (OwnR (w4.setCell ⟨g2, k, none⟩ (.bool true)) (w.heap.size + 1) 3 1 V' (m + 1) c' ((out ++ [k]).map fun k => Value.int .i64 (k : Nat))) := by
            have h1 := HO4.out.kept (grown_one w4 g2 k (.bool true)) (OwnR.ne HO4.out HS4.out (by decide))
            refine Lib.hid ?_
            simpa using h1
          have HX5 : Hid ((w4.setCell ⟨g2, k, none⟩ (.bool true)).heap[w.heap.size]? = _) := (heap_set_far _ _ _ _ _ (by omega)).trans HX4.out
          have HB5 := Lib.hid (kp_set HB4.out (k := g2) (j := k) (u := .bool true) (by omega))
          clear HS4 HX4 HB4 HO4 d3 d4
          go_wp2_with (fail)
          go_roundw
          case rel => exact ⟨i + 1, m + 1, c', V', by go_num, by go_num, by omega, by have := HM.out; rw [HF.out, HSAME.out]; unfold Hid; simp; omega, HX5, HB5, by rw [HF.out, HSAME.out]; exact HS5, by rw [HF.out, HSAME.out]; exact HO5⟩
          case measure => simp [intOf]; omega
    · have i1 : decide ((i : Int) < (on : Int) + (bn : Int)) = false := by simp; omega
      obtain rfl : i = on + bn := by omega
      clear x0 x1 x2 x5 x6
      go_wp2_with (fail)
      go_ret
      have htk : (ordAll bn ord).take (on + bn) = ordAll bn ord := List.take_of_length_le (by rw [ordAll_len]; have := HOL.out; omega)
      rw [htk] at HM HO
      exact ⟨V, m, c, rfl, HM.out, HO.out.lower (by omega), HB.out⟩
end Go.Proofs.YtjfpiidofbjdhaaDoor

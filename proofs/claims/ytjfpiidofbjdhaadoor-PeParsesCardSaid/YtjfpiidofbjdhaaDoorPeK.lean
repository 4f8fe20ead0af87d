/-
  pe: images that are made: a number laid at a place; the order of the bodies; a certificate table.
-/
import Derived.Test.YtjfpiidofbjdhaaDoorOctG2
import Derived.Test.YtjfpiidofbjdhaaDoorPeA
import Derived.Test.YtjfpiidofbjdhaaDoorPeH
import Derived.Test.YtjfpiidofbjdhaaDoorCpy
namespace Go.Proofs.YtjfpiidofbjdhaaDoor
open Go.RowKit Go
set_option linter.unusedVariables false
set_option maxRecDepth 100000
/-- A number laid at a place. -/
def putL (bs : List UInt8) (a x k : Nat) : List UInt8 := splice bs a (leB x k)
theorem splice_len {α : Type} (L : List α) (off : Nat) (cs : List α) (h : off + cs.length ≤ L.length) : (splice L off cs).length = L.length := by
  unfold splice
  simp only [List.length_append, List.length_take, List.length_drop]
  omega
theorem splice_step {α : Type} (L : List α) (a i : Nat) (l : List α) (q : α) (h : a + l.length ≤ L.length) (hq : l[i]? = some q) : (splice L a (l.take i)).set (a + i) q = splice L a (l.take (i + 1)) := by
  have hi : i < l.length := by
    rcases Nat.lt_or_ge i l.length with h | h
    · exact h
    · rw [List.getElem?_eq_none h] at hq; cases hq
  have h1 : (l.take i).length = i := by rw [List.length_take]; omega
  have h2 : (l.take (i + 1)).length = i + 1 := by rw [List.length_take]; omega
  apply List.ext_getElem?
  intro j
  rw [List.getElem?_set, splice_len _ _ _ (by rw [h1]; omega), splice_get _ _ _ (by rw [h1]; omega), splice_get _ _ _ (by rw [h2]; omega), h1, h2, List.getElem?_take, List.getElem?_take]
  by_cases hj : a + i = j
  · subst hj
    rw [if_pos rfl, if_pos (by omega), if_pos (by omega), if_pos (by omega), show a + i - a = i by omega, hq]
  · rw [if_neg hj]
    by_cases h3 : a ≤ j ∧ j < a + i
    · rw [if_pos h3, if_pos (by omega), if_pos (by omega), if_pos (by omega)]
    · rw [if_neg h3, if_neg (by omega)]
theorem putL_len (bs : List UInt8) (a x k : Nat) (h : a + k ≤ bs.length) : (putL bs a x k).length = bs.length := splice_len _ _ _ (by rw [leB_len]; exact h)
set_option maxHeartbeats 2000000 in
theorem putD_any (g n c base : Nat) (bs : List UInt8) (ai xi ki : Int) (a x k : Nat) (w : World) (hO : OwnB w base (some ⟨g, 0, none⟩) n c bs) (hai : ai = (a : Int)) (hxi : xi = (x : Int)) (hki : ki = (k : Int)) (hin : a + k ≤ n) (hk : k = 2 ∨ k = 4) (hx : x < 18446744073709551616) (hn : n ≤ 1000000000) :
    Calls Tryd.prog 35 #[.slice (some ⟨g, 0, none⟩) n c, .int .i64 ai, .int .u64 xi, .int .i64 ki] w fun e w' => e = .returned (.slice (some ⟨g, 0, none⟩) n c) ∧ OwnB w' base (some ⟨g, 0, none⟩) n c (putL bs a x k) ∧ w.grownBy w' (some g) := by
  subst hai
  subst hxi
  subst hki
  have hgl : g < w.heap.size := (hO.blk_lt rfl).2
  have hz : isSz k = true := by rcases hk with rfl | rfl <;> rfl
  have C := Lib.hid (refPut_any none 0 0 [] x k w (RB.nil w none) (by omega) hx)
  have hl : lowS x k = leB x k := by unfold lowS; rw [if_pos hz]; simp
  rw [List.nil_append, hl] at C
  have hll := leB_len x k
  have hpl : putL bs a x k = splice bs a (leB x k) := rfl
  rw [hpl]
  obtain ⟨l, hle⟩ : ∃ l, leB x k = l := ⟨_, rfl⟩
  rw [hle] at C hll ⊢
  have HO := Lib.hid hO
  have hbl := hO.len
  have hk4 : 1 ≤ k ∧ k ≤ 4 := by omega
  have HBL := Lib.hid hbl
  clear hO hl hz hpl hle hbl
  go_enter Tryd.func35, Tryd.ntmps35
  go_wp2_with (fail)
  (with_reducible refine C.out.mono ?_)
  rintro e w1 ⟨A1, n1, c1, rfl, ho1, hb1⟩
  have hn1 := ho1.len
  have hc1 := ho1.cap.1
  obtain ⟨g1, hA1, hg1, hg1l⟩ := ho1.shape (by omega)
  subst hA1
  obtain rfl : n1 = k := by omega
  have H1 := Lib.hid (And.intro (HO.out.below hb1 (Nat.le_refl _)) (And.intro ho1 (grown_of_below hb1 (Nat.le_refl _) (some g))))
  have HLL := Lib.hid hll
  clear ho1 hb1 C hn1 hll
  go_wp2_with (fail)
  go_loopw [10] (fun vi wl => ∃ i : Nat, vi = .int .i64 (i : Int) ∧ i ≤ n1 ∧ Hid (OwnB wl base (some ⟨g, 0, none⟩) n c (splice bs a (l.take i)) ∧ OwnB wl w.heap.size (some ⟨g1, 0, none⟩) n1 c1 l ∧ w.grownBy wl (some g))) (fun vi _ => n1 - (intOf vi).toNat)
  case atStart => exact ⟨0, rfl, Nat.zero_le _, by simpa [splice_nil] using H1.out.1, H1.out.2⟩
  case round =>
    obtain ⟨i, rfl, hi, HK⟩ := hrel
    by_cases hlt : i < n1
    · have i1 : decide ((i : Int) < (n1 : Int)) = true := by simp; omega
      have e3 : IntKind.i64.wrap ((i : Int) + 1) = (i : Int) + 1 := IntWalk.i64_in _ (by omega)
      have e4 : (a : Int) + (i : Int) < (n : Int) := by omega
      have e5 : (0 : Int) ≤ (a : Int) + (i : Int) := by omega
      obtain ⟨q, hq⟩ : ∃ q, l[i]? = some q := ⟨_, List.getElem?_eq_getElem (by have := HLL.out; omega)⟩
      have d1 := HK.out.2.1.cellAt i q hq
      obtain ⟨p, hp⟩ : ∃ p, (splice bs a (l.take i))[a + i]? = some p := by
        have h1 := HK.out.1.len
        exact ⟨_, List.getElem?_eq_getElem (by omega)⟩
      have d2 := HK.out.1.cellAt (a + i) p hp
      have d3 := HK.out.1.free (a + i)
      have hwz := HK.out.2.2.size
      have HN : Hid (OwnB (wr.setCell ⟨g, a + i, none⟩ (.int .u8 (q.toNat : Int))) base (some ⟨g, 0, none⟩) n c (splice bs a (l.take (i + 1))) ∧ OwnB (wr.setCell ⟨g, a + i, none⟩ (.int .u8 (q.toNat : Int))) w.heap.size (some ⟨g1, 0, none⟩) n1 c1 l ∧ w.grownBy (wr.setCell ⟨g, a + i, none⟩ (.int .u8 (q.toNat : Int))) (some g)) := by
        have h1 := HK.out.1.stored (a + i) q
        rw [splice_step bs a i l q (by have := HLL.out; have := HBL.out; omega) hq] at h1
        exact ⟨h1, HK.out.2.1.kept (grown_one _ _ _ _) (.inr (fun e => by have e9 : g1 = g := Option.some.inj e; omega)), grown_tr HK.out.2.2 (grown_one _ _ _ _)⟩
      clear hq hp HK
      go_wp2_with (fail)
      go_roundw
      case rel => exact ⟨i + 1, by go_num, by omega, HN.out⟩
      case measure => simp [intOf]; omega
    · have i1 : decide ((i : Int) < (n1 : Int)) = false := by simp; omega
      obtain rfl : i = n1 := by omega
      go_wp2_with (fail)
      go_ret
      have h1 := HK.out.1
      rw [show l.take i = l by rw [← HLL.out, List.take_length]] at h1
      exact ⟨rfl, h1, HK.out.2.2⟩
/-! ### A certificate table -/
def sigRow (s : List UInt8) : List UInt8 := leB (8 + s.length) 4 ++ [0, 2, 2, 0] ++ s ++ List.replicate ((8 - s.length % 8) % 8) 0
def tableL (l : List (List UInt8)) : List UInt8 := l.flatMap sigRow
theorem sigRow_len (s : List UInt8) : (sigRow s).length = 8 + s.length + (8 - s.length % 8) % 8 := by
  unfold sigRow
  simp [leB_len]
  omega
theorem tableL_snoc (l : List (List UInt8)) (s : List UInt8) : tableL (l ++ [s]) = tableL l ++ sigRow s := by
  unfold tableL
  rw [List.flatMap_append]
  simp
theorem tableL_mod : ∀ l : List (List UInt8), (tableL l).length % 8 = 0
  | [] => rfl
  | s :: r => by
    have h := tableL_mod r
    have e : tableL (s :: r) = sigRow s ++ tableL r := rfl
    rw [e, List.length_append, sigRow_len]
    omega
theorem tableL_le : ∀ (l : List (List UInt8)) (B : Nat), (∀ s ∈ l, s.length ≤ B) → (tableL l).length ≤ l.length * (B + 16)
  | [], B, _ => by simp [tableL]
  | s :: r, B, h => by
    have h1 := tableL_le r B (fun x hx => h x (List.mem_cons_of_mem _ hx))
    have h2 := h s (List.mem_cons_self ..)
    have e : tableL (s :: r) = sigRow s ++ tableL r := rfl
    rw [e, List.length_append, sigRow_len, List.length_cons, Nat.add_mul]
    omega
/-- Byte slices that are read: a row of them, and what they read as. -/
structure RowsR (w : World) (A : Option Addr) (n : Nat) (xs : List Own1) : Prop where
  l : xs.length = n
  row : ReadR w A (xs.map Own1.val)
  rb : ∀ x ∈ xs, RB w x.1 x.2.1 x.2.2.2
theorem RowsR.below {w w' : World} {A : Option Addr} {n : Nat} {xs : List Own1} (h : RowsR w A n xs) (hb : Below w.heap.size w w') : RowsR w' A n xs :=
  ⟨h.l, h.row.below hb (Nat.le_refl _), fun x hx => (h.rb x hx).below hb⟩
theorem RowsR.at_ {w : World} {A : Option Addr} {n : Nat} {xs : List Own1} (h : RowsR w A n xs) {i : Nat} {x : Own1} (hx : xs[i]? = some x) : ∃ b off, A = some ⟨b, off, none⟩ ∧ b < w.heap.size ∧ w.cell? ⟨b, off + i, none⟩ = some x.val :=
  h.row.at_ (by rw [List.getElem?_map, hx]; rfl)
/-- Noughts behind a row until it is a multiple of 8 long: how many there are by now. -/
theorem pad_state (n j : Nat) (h : j ≤ (8 - n % 8) % 8) : ((n + j) % 8 = 0) = (j = (8 - n % 8) % 8) := by
  apply propext
  omega
set_option maxHeartbeats 4000000 in
theorem table_any (A : Option Addr) (n c : Nat) (xs : List Own1) (w : World) (hR : RowsR w A n xs) (hn : n ≤ 100) (hl : ∀ x ∈ xs, x.2.2.2.length ≤ 1000) :
    Calls Tryd.prog 37 #[.slice A n c] w (Fresh w (tableL (xs.map fun x => x.2.2.2))) := by
  have HR := Lib.hid hR
  have HL := Lib.hid hl
  have HLT : Hid (∀ i, (tableL ((xs.take i).map fun x => x.2.2.2)).length ≤ 101600) := fun i => by
    have h1 := tableL_le ((xs.take i).map fun x => x.2.2.2) 1000 (fun s hs => by
      obtain ⟨x, hx, rfl⟩ := List.mem_map.1 hs
      exact hl x (List.mem_of_mem_take hx))
    have h2 : ((xs.take i).map fun x => x.2.2.2).length ≤ 100 := by rw [List.length_map, List.length_take]; have := hR.l; omega
    refine Nat.le_trans h1 (Nat.le_trans (Nat.mul_le_mul_right _ h2) (by omega))
  clear hR hl
  go_enter Tryd.func37, Tryd.ntmps37
  go_wp2_with (fail)
  go_loopw [3, 4] (fun vo vi wl => ∃ (i k co : Nat) (X : Option Addr), vo = .slice X k co ∧ vi = .int .i64 (i : Int) ∧ i ≤ n ∧ Hid (OwnB wl w.heap.size X k co (tableL ((xs.take i).map fun x => x.2.2.2)) ∧ Below w.heap.size w wl)) (fun _ vi _ => n - (intOf vi).toNat)
  case atStart => exact ⟨0, 0, 0, none, rfl, rfl, Nat.zero_le _, OwnB.nil _ _, Below.refl _ _⟩
  case round =>
    obtain ⟨i, k, co, X, rfl, rfl, hi, HK⟩ := hrel
    have hkl := HK.out.1.len
    have hk2 := HLT.out i
    have hkm := tableL_mod ((xs.take i).map fun x => x.2.2.2)
    rw [hkl] at hk2 hkm
    by_cases hlt : i < n
    · have i1 : decide ((i : Int) < (n : Int)) = true := by simp; omega
      have e3 : IntKind.i64.wrap ((i : Int) + 1) = (i : Int) + 1 := IntWalk.i64_in _ (by omega)
      obtain ⟨x, hx⟩ : ∃ x, xs[i]? = some x := ⟨_, List.getElem?_eq_getElem (by have := HR.out.l; omega)⟩
      have hxm := List.mem_of_getElem? hx
      have hxl := HL.out x hxm
      obtain ⟨b, off, hA, hb, ck0⟩ := HR.out.at_ hx
      have ck := kp_cell HK.out.2 ck0
      have CK : Hid (∀ W, Below w.heap.size w W → W.cell? ⟨b, off + i, none⟩ = some x.val) := fun W hW => kp_cell hW ck0
      have hrbx := HR.out.rb x hxm
      have hts : tableL ((xs.take (i + 1)).map fun x => x.2.2.2) = tableL ((xs.take i).map fun x => x.2.2.2) ++ sigRow x.2.2.2 := by
        rw [List.take_add_one, hx, List.map_append]
        exact tableL_snoc _ _
      have HTS := Lib.hid hts
      obtain ⟨T, hT⟩ : ∃ T, tableL ((xs.take i).map fun x => x.2.2.2) = T := ⟨_, rfl⟩
      rw [hT] at HK HTS
      obtain ⟨xa, xn, xc, xb⟩ := x
      dsimp only [Own1.val] at hrbx hxl ck HTS CK
      have hxn := hrbx.1
      have HRX := Lib.hid hrbx
      have HOB := Lib.hid HK.out.1
      have HBB := Lib.hid HK.out.2
      subst hA
      have C := Lib.hid (refPut_any none 0 0 [] (8 + xn) 4 wr (RB.nil wr none) (by omega) (by omega))
      have e8 : ((8 + xn : Nat) : Int) = 8 + (xn : Int) := by push_cast; rfl
      have hlw : lowS (8 + xn) (4 : Int) = leB (8 + xn) 4 := rfl
      rw [List.nil_append, e8] at C
      have e9 : IntKind.u64.wrap (8 + (xn : Int)) = 8 + (xn : Int) := by rw [IntKind.wrap_u64]; omega
      clear hrbx hx hxm hb hts hT HK ck0
      go_wp2_with (fail)
      (with_reducible refine C.out.mono ?_)
      rintro e w2 ⟨X2, k2, c2, rfl, ho2, hb2⟩
      have hk2 := ho2.len
      rw [hlw, leB_len] at hk2
      subst hk2
      rw [hlw] at ho2
      have HO2 := Lib.hid (And.intro (HOB.out.below hb2 (Nat.le_refl _)) (And.intro ho2.rb (kp_call HBB.out hb2)))
      have hwz2 : w.heap.size ≤ w2.heap.size := HO2.out.2.2.size
      clear ho2 hb2 C HOB HBB ck
      go_wp2_with (at_builtin; refine wpList_apn _ _ rfl rfl rfl w.heap.size X k co T rfl HO2.out.1 X2 4 c2 _ rfl HO2.out.2.1 (by omega) hwz2 ?_)
      intro A3 c3 w3 ho3 hg3
      have HO3 := Lib.hid (And.intro ho3 (HO2.out.2.2.grown hg3 hwz2 (fun q hq => (HO2.out.1.blk_lt hq).1)))
      have hwz3 : w.heap.size ≤ w3.heap.size := HO3.out.2.size
      have HB4 : Hid (RB (w3.alloc (.cells #[.int .u8 0, .int .u8 2, .int .u8 2, .int .u8 0] 5)) (some ⟨w3.heap.size, 0, none⟩) 4 [0, 2, 2, 0]) := ⟨rfl, by
        have := bs_new w3 [0, 2, 2, 0] 5 (0, 0) #[.int .u8 0, .int .u8 2, .int .u8 2, .int .u8 0] rfl
        simpa using this⟩
      clear ho3 hg3 HO2
      go_wp2_with (at_builtin; refine wpList_apn _ _ rfl rfl rfl w.heap.size A3 (k + 4) c3 _ rfl (HO3.out.1.alloc _) _ 4 4 [0, 2, 2, 0] rfl HB4.out (by omega) (by simp; omega) ?_)
      intro A4 c4 w4 ho4 hg4
      have HO4 := Lib.hid (And.intro ho4 ((kp_alloc HO3.out.2 _).grown hg4 (by simp; omega) (fun q hq => (HO3.out.1.blk_lt hq).1)))
      have hwz4 : w.heap.size ≤ w4.heap.size := HO4.out.2.size
      have ck4 := CK.out w4 HO4.out.2
      clear ho4 hg4 HO3
      go_wp2_with (at_builtin; refine wpList_apn _ _ rfl rfl rfl w.heap.size A4 (k + 4 + 4) c4 _ rfl HO4.out.1 xa xn xc xb rfl (HRX.out.below HO4.out.2) (by omega) hwz4 ?_)
      intro A5 c5 w5 ho5 hg5
      have HO5 : Hid (OwnB w5 w.heap.size A5 (k + 4 + 4 + xn) c5 (T ++ leB (8 + xn) 4 ++ [0, 2, 2, 0] ++ xb) ∧ Below w.heap.size w w5) := ⟨by simpa using ho5, HO4.out.2.grown hg5 hwz4 (fun q hq => (HO4.out.1.blk_lt hq).1)⟩
      clear ho5 hg5 HO4 ck4
      obtain ⟨S0, hS0⟩ : ∃ S0, T ++ leB (8 + xn) 4 ++ [0, 2, 2, 0] ++ xb = S0 := ⟨_, rfl⟩
      rw [hS0] at HO5
      have HS0 := Lib.hid hS0
      obtain ⟨m0, hm0⟩ : ∃ m0, k + 4 + 4 + xn = m0 := ⟨_, rfl⟩
      rw [hm0] at HO5
      have hpad : (8 - m0 % 8) % 8 = (8 - xn % 8) % 8 := by omega
      have hpd7 : (8 - m0 % 8) % 8 ≤ 7 := by omega
      obtain ⟨pd, hpd⟩ : ∃ pd, (8 - m0 % 8) % 8 = pd := ⟨_, rfl⟩
      rw [hpd] at hpad hpd7
      have HPD := Lib.hid (And.intro hpd hpad)
      have hm0l : m0 ≤ 200000 := by omega
      have HM0 := Lib.hid hm0
      rw [hm0]
      clear hS0 hpd hpad hm0 hk2 hkm
      go_wp2_with (fail)
      go_loopw [3] (fun vo wl => ∃ (j co' : Nat) (X' : Option Addr), vo = .slice X' (m0 + j) co' ∧ j ≤ pd ∧ Hid (OwnB wl w.heap.size X' (m0 + j) co' (S0 ++ List.replicate j 0) ∧ Below w.heap.size w wl)) (fun vo _ => m0 + pd - (match vo with | .slice _ l _ => l | _ => 0))
      case atStart => exact ⟨0, c5, A5, rfl, Nat.zero_le _, by simpa using HO5.out.1, HO5.out.2⟩
      case round =>
        obtain ⟨j, co', X', rfl, hj, HK⟩ := hrel
        obtain ⟨r, hr⟩ : ∃ r, (m0 + j) % 8 = r := ⟨_, rfl⟩
        have f1 : ((m0 : Int) + (j : Int)).tmod 8 = (r : Int) := by rw [← hr, Int.tmod_eq_emod_of_nonneg (by omega)]; omega
        have f2 : ((m0 : Int) + (j : Int)) % 8 = (r : Int) := by omega
        have hrj : r = 0 ↔ j = pd := by
          have h1 := pad_state m0 j (by have := HPD.out.1; omega)
          rw [HPD.out.1, hr] at h1
          exact Iff.of_eq h1
        have hwk : w.heap.size ≤ wr.heap.size := HK.out.2.size
        have hj7 : j ≤ 7 := by omega
        clear hr
        by_cases h0 : r = 0
        · have t1 : ((r : Int) != 0) = false := by simp; omega
          obtain rfl := hrj.1 h0
          clear h0 hrj
          have HF : Hid (OwnB wr w.heap.size X' (m0 + j) co' (T ++ sigRow xb) ∧ Below w.heap.size w wr) := by
            refine ⟨?_, HK.out.2⟩
            have h1 := HK.out.1
            unfold sigRow
            rw [hxn, ← HPD.out.2]
            rw [← HS0.out] at h1
            simpa using h1
          go_wp2_with (fail)
          go_roundw
          case rel => exact ⟨i + 1, m0 + j, co', X', by go_num, by go_num, by omega, by rw [HTS.out]; exact HF.out.1, HF.out.2⟩
          case measure => simp [intOf]; omega
        · have t1 : ((r : Int) != 0) = true := by simp; omega
          have hjp : j < pd := by
            have : j ≠ pd := fun e => h0 (hrj.2 e)
            omega
          clear h0 hrj
          have HQ1 : Hid ((wr.alloc (.cells #[.int .u8 0] 5)).cell? ⟨wr.heap.size, 0, none⟩ = some (bv 0)) := cells_1 (has_new wr _)
          go_wp2_with (at_builtin; refine wpList_app1 _ _ rfl rfl rfl w.heap.size X' (m0 + j) co' _ rfl (HK.out.1.alloc _) wr.heap.size 1 0 rfl HQ1.out (by omega) (by simp; omega) ?_)
          intro A6 c6 w6 ho6 _ hg6 _
          have HF : Hid (OwnB w6 w.heap.size A6 (m0 + (j + 1)) c6 (S0 ++ List.replicate (j + 1) 0) ∧ Below w.heap.size w w6) := by
            refine ⟨?_, (kp_alloc HK.out.2 _).grown hg6 (by simp; omega) (fun q hq => (HK.out.1.blk_lt hq).1)⟩
            rw [List.replicate_succ']
            exact ho6
          go_wp2_with (fail)
          go_roundw
          case rel => exact ⟨j + 1, c6, A6, by go_num, by omega, HF.out⟩
          case measure => simp; omega
    · have i1 : decide ((i : Int) < (n : Int)) = false := by simp; omega
      obtain rfl : i = n := by omega
      go_wp2_with (fail)
      go_ret
      have h1 := HK.out
      rw [show xs.take i = xs by rw [← HR.out.l, List.take_length]] at h1
      exact ⟨_, _, _, rfl, h1⟩
end Go.Proofs.YtjfpiidofbjdhaaDoor

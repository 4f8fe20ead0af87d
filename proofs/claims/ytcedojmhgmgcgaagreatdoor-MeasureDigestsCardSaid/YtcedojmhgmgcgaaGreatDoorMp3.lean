/-
  pe: images that are made: a number laid at a place; the order of the bodies; a certificate table.
-/
import Derived.Test.YtcedojmhgmgcgaaGreatDoorOctG2
import Derived.Test.YtcedojmhgmgcgaaGreatDoorMp1
import Derived.Test.YtcedojmhgmgcgaaGreatDoorMp2
import Derived.Test.YtcedojmhgmgcgaaGreatDoorCpy
namespace Go.Proofs.YtcedojmhgmgcgaaGreatDoor
open Go.RowKit Go
set_option linter.unusedVariables false
set_option maxRecDepth 100000
/-- A number laid at a place. -/
def putL (bs : List UInt8) (a x k : Nat) : List UInt8 := splice bs a (leB x k)
theorem splice_len {α : Type} (L : List α) (off : Nat) (cs : List α) (h : off + cs.length ≤ L.length) : (splice L off cs).length = L.length := by
  unfold splice
  simp only [List.length_append, List.length_take, List.length_drop]
  omega
theorem splice_step {α : Type} (L : List α) (a i : Nat) (l : List α) (q : α) (h : a + l.length ≤ L.length) (hq : l[i]? = some q) : (splice L a (l.take i)).set (a + i) q = splice L a (l.take (i + 1)) := by
  have hi : i < l.length := by
    rcases Nat.lt_or_ge i l.length with h | h
    · exact h
    · rw [List.getElem?_eq_none h] at hq; cases hq
  have h1 : (l.take i).length = i := by rw [List.length_take]; omega
  have h2 : (l.take (i + 1)).length = i + 1 := by rw [List.length_take]; omega
  apply List.ext_getElem?
  intro j
  rw [List.getElem?_set, splice_len _ _ _ (by rw [h1]; omega), splice_get _ _ _ (by rw [h1]; omega), splice_get _ _ _ (by rw [h2]; omega), h1, h2, List.getElem?_take, List.getElem?_take]
  by_cases hj : a + i = j
  · subst hj
    rw [if_pos rfl, if_pos (by omega), if_pos (by omega), if_pos (by omega), show a + i - a = i by omega, hq]
  · rw [if_neg hj]
    by_cases h3 : a ≤ j ∧ j < a + i
    · rw [if_pos h3, if_pos (by omega), if_pos (by omega), if_pos (by omega)]
    · rw [if_neg h3, if_neg (by omega)]
theorem putL_len (bs : List UInt8) (a x k : Nat) (h : a + k ≤ bs.length) : (putL bs a x k).length = bs.length := splice_len _ _ _ (by rw [leB_len]; exact h)
set_option maxHeartbeats 2000000 in
theorem putD_any (g n c base : Nat) (bs : List UInt8) (ai xi ki : Int) (a x k : Nat) (w : World) (hO : OwnB w base (some ⟨g, 0, none⟩) n c bs) (hai : ai = (a : Int)) (hxi : xi = (x : Int)) (hki : ki = (k : Int)) (hin : a + k ≤ n) (hk : k = 2 ∨ k = 4) (hx : x < 18446744073709551616) (hn : n ≤ 1000000000) :
    Calls Tryz.prog 26 #[.slice (some ⟨g, 0, none⟩) n c, .int .i64 ai, .int .u64 xi, .int .i64 ki] w fun e w' => e = .returned (.slice (some ⟨g, 0, none⟩) n c) ∧ OwnB w' base (some ⟨g, 0, none⟩) n c (putL bs a x k) ∧ w.grownBy w' (some g) := by
  subst hai
  subst hxi
  subst hki
  have hgl : g < w.heap.size := (hO.blk_lt rfl).2
  have hz : isSz k = true := by rcases hk with rfl | rfl <;> rfl
  have C := Lib.hid (refPut_any none 0 0 [] x k w (RB.nil w none) (by omega) hx)
  have hl : lowS x k = leB x k := by unfold lowS; rw [if_pos hz]; simp
  rw [List.nil_append, hl] at C
  have hll := leB_len x k
  have hpl : putL bs a x k = splice bs a (leB x k) := rfl
  rw [hpl]
  obtain ⟨l, hle⟩ : ∃ l, leB x k = l := ⟨_, rfl⟩
  rw [hle] at C hll ⊢
  have HO := Lib.hid hO
  have hbl := hO.len
  have hk4 : 1 ≤ k ∧ k ≤ 4 := by omega
  have HBL := Lib.hid hbl
  clear hO hl hz hpl hle hbl
  go_enter Tryz.func26, Tryz.ntmps26
  go_wp2_with (fail)
  (with_reducible refine C.out.mono ?_)
  rintro e w1 ⟨A1, n1, c1, rfl, ho1, hb1⟩
  have hn1 := ho1.len
  have hc1 := ho1.cap.1
  obtain ⟨g1, hA1, hg1, hg1l⟩ := ho1.shape (by omega)
  subst hA1
  obtain rfl : n1 = k := by omega
  have H1 := Lib.hid (And.intro (HO.out.below hb1 (Nat.le_refl _)) (And.intro ho1 (grown_of_below hb1 (Nat.le_refl _) (some g))))
  have HLL := Lib.hid hll
  clear ho1 hb1 C hn1 hll
  go_wp2_with (fail)
  go_loopw [10] (fun vi wl => ∃ i : Nat, vi = .int .i64 (i : Int) ∧ i ≤ n1 ∧ Hid (OwnB wl base (some ⟨g, 0, none⟩) n c (splice bs a (l.take i)) ∧ OwnB wl w.heap.size (some ⟨g1, 0, none⟩) n1 c1 l ∧ w.grownBy wl (some g))) (fun vi _ => n1 - (intOf vi).toNat)
  case atStart => exact ⟨0, rfl, Nat.zero_le _, by simpa [splice_nil] using H1.out.1, H1.out.2⟩
  case round =>
    obtain ⟨i, rfl, hi, HK⟩ := hrel
    by_cases hlt : i < n1
    · have i1 : decide ((i : Int) < (n1 : Int)) = true := by simp; omega
      have e3 : IntKind.i64.wrap ((i : Int) + 1) = (i : Int) + 1 := IntWalk.i64_in _ (by omega)
      have e4 : (a : Int) + (i : Int) < (n : Int) := by omega
      have e5 : (0 : Int) ≤ (a : Int) + (i : Int) := by omega
      obtain ⟨q, hq⟩ : ∃ q, l[i]? = some q := ⟨_, List.getElem?_eq_getElem (by have := HLL.out; omega)⟩
      have d1 := HK.out.2.1.cellAt i q hq
      obtain ⟨p, hp⟩ : ∃ p, (splice bs a (l.take i))[a + i]? = some p := by
        have h1 := HK.out.1.len
        exact ⟨_, List.getElem?_eq_getElem (by omega)⟩
      have d2 := HK.out.1.cellAt (a + i) p hp
      have d3 := HK.out.1.free (a + i)
      have hwz := HK.out.2.2.size
      have HN : Hid (OwnB (wr.setCell ⟨g, a + i, none⟩ (.int .u8 (q.toNat : Int))) base (some ⟨g, 0, none⟩) n c (splice bs a (l.take (i + 1))) ∧ OwnB (wr.setCell ⟨g, a + i, none⟩ (.int .u8 (q.toNat : Int))) w.heap.size (some ⟨g1, 0, none⟩) n1 c1 l ∧ w.grownBy (wr.setCell ⟨g, a + i, none⟩ (.int .u8 (q.toNat : Int))) (some g)) := by
        have h1 := HK.out.1.stored (a + i) q
        rw [splice_step bs a i l q (by have := HLL.out; have := HBL.out; omega) hq] at h1
        exact ⟨h1, HK.out.2.1.kept (grown_one _ _ _ _) (.inr (fun e => by have e9 : g1 = g := Option.some.inj e; omega)), grown_tr HK.out.2.2 (grown_one _ _ _ _)⟩
      clear hq hp HK
      go_wp2_with (fail)
      go_roundw
      case rel => exact ⟨i + 1, by go_num, by omega, HN.out⟩
      case measure => simp [intOf]; omega
    · have i1 : decide ((i : Int) < (n1 : Int)) = false := by simp; omega
      obtain rfl : i = n1 := by omega
      go_wp2_with (fail)
      go_ret
      have h1 := HK.out.1
      rw [show l.take i = l by rw [← HLL.out, List.take_length]] at h1
      exact ⟨rfl, h1, HK.out.2.2⟩
/-! ### A certificate table -/
def sigRow (s : List UInt8) : List UInt8 := leB (8 + s.length) 4 ++ [0, 2, 2, 0] ++ s ++ List.replicate ((8 - s.length % 8) % 8) 0
def tableL (l : List (List UInt8)) : List UInt8 := l.flatMap sigRow
theorem sigRow_len (s : List UInt8) : (sigRow s).length = 8 + s.length + (8 - s.length % 8) % 8 := by
  unfold sigRow
  simp [leB_len]
  omega
theorem tableL_snoc (l : List (List UInt8)) (s : List UInt8) : tableL (l ++ [s]) = tableL l ++ sigRow s := by
  unfold tableL
  rw [List.flatMap_append]
  simp
theorem tableL_mod : ∀ l : List (List UInt8), (tableL l).length % 8 = 0
  | [] => rfl
  | s :: r => by
    have h := tableL_mod r
    have e : tableL (s :: r) = sigRow s ++ tableL r := rfl
    rw [e, List.length_append, sigRow_len]
    omega
theorem tableL_le : ∀ (l : List (List UInt8)) (B : Nat), (∀ s ∈ l, s.length ≤ B) → (tableL l).length ≤ l.length * (B + 16)
  | [], B, _ => by simp [tableL]
  | s :: r, B, h => by
    have h1 := tableL_le r B (fun x hx => h x (List.mem_cons_of_mem _ hx))
    have h2 := h s (List.mem_cons_self ..)
    have e : tableL (s :: r) = sigRow s ++ tableL r := rfl
    rw [e, List.length_append, sigRow_len, List.length_cons, Nat.add_mul]
    omega
/-- Byte slices that are read: a row of them, and what they read as. -/
structure RowsR (w : World) (A : Option Addr) (n : Nat) (xs : List Own1) : Prop where
  l : xs.length = n
  row : ReadR w A (xs.map Own1.val)
  rb : ∀ x ∈ xs, RB w x.1 x.2.1 x.2.2.2
theorem RowsR.below {w w' : World} {A : Option Addr} {n : Nat} {xs : List Own1} (h : RowsR w A n xs) (hb : Below w.heap.size w w') : RowsR w' A n xs :=
  ⟨h.l, h.row.below hb (Nat.le_refl _), fun x hx => (h.rb x hx).below hb⟩
theorem RowsR.at_ {w : World} {A : Option Addr} {n : Nat} {xs : List Own1} (h : RowsR w A n xs) {i : Nat} {x : Own1} (hx : xs[i]? = some x) : ∃ b off, A = some ⟨b, off, none⟩ ∧ b < w.heap.size ∧ w.cell? ⟨b, off + i, none⟩ = some x.val :=
  h.row.at_ (by rw [List.getElem?_map, hx]; rfl)
/-- Noughts behind a row until it is a multiple of 8 long: how many there are by now. -/
theorem pad_state (n j : Nat) (h : j ≤ (8 - n % 8) % 8) : ((n + j) % 8 = 0) = (j = (8 - n % 8) % 8) := by
  apply propext
  omega
set_option maxHeartbeats 4000000 in
theorem table_any (A : Option Addr) (n c : Nat) (xs : List Own1) (w : World) (hR : RowsR w A n xs) (hn : n ≤ 100) (hl : ∀ x ∈ xs, x.2.2.2.length ≤ 1000) :
    Calls Tryz.prog 28 #[.slice A n c] w (Fresh w (tableL (xs.map fun x => x.2.2.2))) := by
  have HR := Lib.hid hR
  have HL := Lib.hid hl
  have HLT : Hid (∀ i, (tableL ((xs.take i).map fun x => x.2.2.2)).length ≤ 101600) := fun i => by
    have h1 := tableL_le ((xs.take i).map fun x => x.2.2.2) 1000 (fun s hs => by
      obtain ⟨x, hx, rfl⟩ := List.mem_map.1 hs
      exact hl x (List.mem_of_mem_take hx))
    have h2 : ((xs.take i).map fun x => x.2.2.2).length ≤ 100 := by rw [List.length_map, List.length_take]; have := hR.l; omega
    refine Nat.le_trans h1 (Nat.le_trans (Nat.mul_le_mul_right _ h2) (by omega))
  clear hR hl
  go_enter Tryz.func28, Tryz.ntmps28
  go_wp2_with (fail)
  go_loopw [3, 4] (fun vo vi wl => ∃ (i k co : Nat) (X : Option Addr), vo = .slice X k co ∧ vi = .int .i64 (i : Int) ∧ i ≤ n ∧ Hid (OwnB wl w.heap.size X k co (tableL ((xs.take i).map fun x => x.2.2.2)) ∧ Below w.heap.size w wl)) (fun _ vi _ => n - (intOf vi).toNat)
  case atStart => exact ⟨0, 0, 0, none, rfl, rfl, Nat.zero_le _, OwnB.nil _ _, Below.refl _ _⟩
  case round =>
    obtain ⟨i, k, co, X, rfl, rfl, hi, HK⟩ := hrel
    have hkl := HK.out.1.len
    have hk2 := HLT.out i
    have hkm := tableL_mod ((xs.take i).map fun x => x.2.2.2)
    rw [hkl] at hk2 hkm
    by_cases hlt : i < n
    · have i1 : decide ((i : Int) < (n : Int)) = true := by simp; omega
      have e3 : IntKind.i64.wrap ((i : Int) + 1) = (i : Int) + 1 := IntWalk.i64_in _ (by omega)
      obtain ⟨x, hx⟩ : ∃ x, xs[i]? = some x := ⟨_, List.getElem?_eq_getElem (by have := HR.out.l; omega)⟩
      have hxm := List.mem_of_getElem? hx
      have hxl := HL.out x hxm
      obtain ⟨b, off, hA, hb, ck0⟩ := HR.out.at_ hx
      have ck := kp_cell HK.out.2 ck0
      have CK : Hid (∀ W, Below w.heap.size w W → W.cell? ⟨b, off + i, none⟩ = some x.val) := fun W hW => kp_cell hW ck0
      have hrbx := HR.out.rb x hxm
      have hts : tableL ((xs.take (i + 1)).map fun x => x.2.2.2) = tableL ((xs.take i).map fun x => x.2.2.2) ++ sigRow x.2.2.2 := by
        rw [List.take_add_one, hx, List.map_append]
        exact tableL_snoc _ _
      have HTS := Lib.hid hts
      obtain ⟨T, hT⟩ : ∃ T, tableL ((xs.take i).map fun x => x.2.2.2) = T := ⟨_, rfl⟩
      rw [hT] at HK HTS
      obtain ⟨xa, xn, xc, xb⟩ := x
      dsimp only [Own1.val] at hrbx hxl ck HTS CK
      have hxn := hrbx.1
      have HRX := Lib.hid hrbx
      have HOB := Lib.hid HK.out.1
      have HBB := Lib.hid HK.out.2
      subst hA
      have C := Lib.hid (refPut_any none 0 0 [] (8 + xn) 4 wr (RB.nil wr none) (by omega) (by omega))
      have e8 : ((8 + xn : Nat) : Int) = 8 + (xn : Int) := by push_cast; rfl
      have hlw : lowS (8 + xn) (4 : Int) = leB (8 + xn) 4 := rfl
      rw [List.nil_append, e8] at C
      have e9 : IntKind.u64.wrap (8 + (xn : Int)) = 8 + (xn : Int) := by rw [IntKind.wrap_u64]; omega
      clear hrbx hx hxm hb hts hT HK ck0
      go_wp2_with (fail)
      (with_reducible refine C.out.mono ?_)
      rintro e w2 ⟨X2, k2, c2, rfl, ho2, hb2⟩
      have hk2 := ho2.len
      rw [hlw, leB_len] at hk2
      subst hk2
      rw [hlw] at ho2
      have HO2 := Lib.hid (And.intro (HOB.out.below hb2 (Nat.le_refl _)) (And.intro ho2.rb (kp_call HBB.out hb2)))
      have hwz2 : w.heap.size ≤ w2.heap.size := HO2.out.2.2.size
      clear ho2 hb2 C HOB HBB ck
      go_wp2_with (at_builtin; refine wpList_apn _ _ rfl rfl rfl w.heap.size X k co T rfl HO2.out.1 X2 4 c2 _ rfl HO2.out.2.1 (by omega) hwz2 ?_)
      intro A3 c3 w3 ho3 hg3
      have HO3 := Lib.hid (And.intro ho3 (HO2.out.2.2.grown hg3 hwz2 (fun q hq => (HO2.out.1.blk_lt hq).1)))
      have hwz3 : w.heap.size ≤ w3.heap.size := HO3.out.2.size
      have HB4 : Hid (RB (w3.alloc (.cells #[.int .u8 0, .int .u8 2, .int .u8 2, .int .u8 0] 5)) (some ⟨w3.heap.size, 0, none⟩) 4 [0, 2, 2, 0]) := ⟨rfl, by
        have := bs_new w3 [0, 2, 2, 0] 5 (0, 0) #[.int .u8 0, .int .u8 2, .int .u8 2, .int .u8 0] rfl
        simpa using this⟩
      clear ho3 hg3 HO2
      go_wp2_with (at_builtin; refine wpList_apn _ _ rfl rfl rfl w.heap.size A3 (k + 4) c3 _ rfl (HO3.out.1.alloc _) _ 4 4 [0, 2, 2, 0] rfl HB4.out (by omega) (by simp; omega) ?_)
      intro A4 c4 w4 ho4 hg4
      have HO4 := Lib.hid (And.intro ho4 ((kp_alloc HO3.out.2 _).grown hg4 (by simp; omega) (fun q hq => (HO3.out.1.blk_lt hq).1)))
      have hwz4 : w.heap.size ≤ w4.heap.size := HO4.out.2.size
      have ck4 := CK.out w4 HO4.out.2
      clear ho4 hg4 HO3
      go_wp2_with (at_builtin; refine wpList_apn _ _ rfl rfl rfl w.heap.size A4 (k + 4 + 4) c4 _ rfl HO4.out.1 xa xn xc xb rfl (HRX.out.below HO4.out.2) (by omega) hwz4 ?_)
      intro A5 c5 w5 ho5 hg5
      have HO5 : Hid (OwnB w5 w.heap.size A5 (k + 4 + 4 + xn) c5 (T ++ leB (8 + xn) 4 ++ [0, 2, 2, 0] ++ xb) ∧ Below w.heap.size w w5) := ⟨by simpa using ho5, HO4.out.2.grown hg5 hwz4 (fun q hq => (HO4.out.1.blk_lt hq).1)⟩
      clear ho5 hg5 HO4 ck4
      obtain ⟨S0, hS0⟩ : ∃ S0, T ++ leB (8 + xn) 4 ++ [0, 2, 2, 0] ++ xb = S0 := ⟨_, rfl⟩
      rw [hS0] at HO5
      have HS0 := Lib.hid hS0
      obtain ⟨m0, hm0⟩ : ∃ m0, k + 4 + 4 + xn = m0 := ⟨_, rfl⟩
      rw [hm0] at HO5
      have hpad : (8 - m0 % 8) % 8 = (8 - xn % 8) % 8 := by omega
      have hpd7 : (8 - m0 % 8) % 8 ≤ 7 := by omega
      obtain ⟨pd, hpd⟩ : ∃ pd, (8 - m0 % 8) % 8 = pd := ⟨_, rfl⟩
      rw [hpd] at hpad hpd7
      have HPD := Lib.hid (And.intro hpd hpad)
      have hm0l : m0 ≤ 200000 := by omega
      have HM0 := Lib.hid hm0
      rw [hm0]
      clear hS0 hpd hpad hm0 hk2 hkm
      go_wp2_with (fail)
      go_loopw [3] (fun vo wl => ∃ (j co' : Nat) (X' : Option Addr), vo = .slice X' (m0 + j) co' ∧ j ≤ pd ∧ Hid (OwnB wl w.heap.size X' (m0 + j) co' (S0 ++ List.replicate j 0) ∧ Below w.heap.size w wl)) (fun vo _ => m0 + pd - (match vo with | .slice _ l _ => l | _ => 0))
      case atStart => exact ⟨0, c5, A5, rfl, Nat.zero_le _, by simpa using HO5.out.1, HO5.out.2⟩
      case round =>
        obtain ⟨j, co', X', rfl, hj, HK⟩ := hrel
        obtain ⟨r, hr⟩ : ∃ r, (m0 + j) % 8 = r := ⟨_, rfl⟩
        have f1 : ((m0 : Int) + (j : Int)).tmod 8 = (r : Int) := by rw [← hr, Int.tmod_eq_emod_of_nonneg (by omega)]; omega
        have f2 : ((m0 : Int) + (j : Int)) % 8 = (r : Int) := by omega
        have hrj : r = 0 ↔ j = pd := by
          have h1 := pad_state m0 j (by have := HPD.out.1; omega)
          rw [HPD.out.1, hr] at h1
          exact Iff.of_eq h1
        have hwk : w.heap.size ≤ wr.heap.size := HK.out.2.size
        have hj7 : j ≤ 7 := by omega
        clear hr
        by_cases h0 : r = 0
        · have t1 : ((r : Int) != 0) = false := by simp; omega
          obtain rfl := hrj.1 h0
          clear h0 hrj
          have HF : Hid (OwnB wr w.heap.size X' (m0 + j) co' (T ++ sigRow xb) ∧ Below w.heap.size w wr) := by
            refine ⟨?_, HK.out.2⟩
            have h1 := HK.out.1
            unfold sigRow
            rw [hxn, ← HPD.out.2]
            rw [← HS0.out] at h1
            simpa using h1
          go_wp2_with (fail)
          go_roundw
          case rel => exact ⟨i + 1, m0 + j, co', X', by go_num, by go_num, by omega, by rw [HTS.out]; exact HF.out.1, HF.out.2⟩
          case measure => simp [intOf]; omega
        · have t1 : ((r : Int) != 0) = true := by simp; omega
          have hjp : j < pd := by
            have : j ≠ pd := fun e => h0 (hrj.2 e)
            omega
          clear h0 hrj
          have HQ1 : Hid ((wr.alloc (.cells #[.int .u8 0] 5)).cell? ⟨wr.heap.size, 0, none⟩ = some (bv 0)) := cells_1 (has_new wr _)
          go_wp2_with (at_builtin; refine wpList_app1 _ _ rfl rfl rfl w.heap.size X' (m0 + j) co' _ rfl (HK.out.1.alloc _) wr.heap.size 1 0 rfl HQ1.out (by omega) (by simp; omega) ?_)
          intro A6 c6 w6 ho6 _ hg6 _
          have HF : Hid (OwnB w6 w.heap.size A6 (m0 + (j + 1)) c6 (S0 ++ List.replicate (j + 1) 0) ∧ Below w.heap.size w w6) := by
            refine ⟨?_, (kp_alloc HK.out.2 _).grown hg6 (by simp; omega) (fun q hq => (HK.out.1.blk_lt hq).1)⟩
            rw [List.replicate_succ']
            exact ho6
          go_wp2_with (fail)
          go_roundw
          case rel => exact ⟨j + 1, c6, A6, by go_num, by omega, HF.out⟩
          case measure => simp; omega
    · have i1 : decide ((i : Int) < (n : Int)) = false := by simp; omega
      obtain rfl : i = n := by omega
      go_wp2_with (fail)
      go_ret
      have h1 := HK.out
      rw [show xs.take i = xs by rw [← HR.out.l, List.take_length]] at h1
      exact ⟨_, _, _, rfl, h1⟩
end Go.Proofs.YtcedojmhgmgcgaaGreatDoor
namespace Go.Proofs.YtcedojmhgmgcgaaGreatDoor
open Go.RowKit Go
set_option linter.unusedVariables false
set_option maxRecDepth 100000
theorem int_row : RowT 42 3 1 8 (.int .i64 0) := ⟨Tryz.underlying42, by kernel_rfl, rfl, by decide⟩
theorem bool_row : RowT 107 4 1 1 (.bool false) := ⟨Tryz.underlying107, by kernel_rfl, rfl, by decide⟩
theorem ownR_at {w : World} {base e k : Nat} {g n c : Nat} {vs : List Value} {j : Nat} {u : Value} (h : OwnR w base e k (some ⟨g, 0, none⟩) n c vs) (hu : vs[j]? = some u) : w.cell? ⟨g, j, none⟩ = some u := by
  obtain ⟨b, off, e, _, hc⟩ := h.reads.at_ hu
  injection e with e
  injection e with e1 e2
  subst e1
  subst e2
  simpa using hc
/-- A shape in memory. -/
structure Shp where
  plus : Bool
  sA : Option Addr
  sn : Nat
  sc : Nat
  stub : List UInt8
  fA : Option Addr
  fn : Nat
  fc : Nat
  fill : List UInt8
  bA : Option Addr
  bn : Nat
  bc : Nat
  bod : List Own1
  oA : Option Addr
  on : Nat
  oc : Nat
  ord : List Int
  hA : Option Addr
  hn : Nat
  hc : Nat
  beh : List UInt8
  gA : Option Addr
  gn : Nat
  gc : Nat
  sig : List Own1
def Shp.cells (x : Shp) : Array Value := #[.bool x.plus, .slice x.sA x.sn x.sc, .slice x.fA x.fn x.fc, .slice x.bA x.bn x.bc, .slice x.oA x.on x.oc, .slice x.hA x.hn x.hc, .slice x.gA x.gn x.gc]
structure Shp.R (w : World) (x : Shp) : Prop where
  s : RB w x.sA x.sn x.stub
  f : RB w x.fA x.fn x.fill
  b : RowsR w x.bA x.bn x.bod
  ol : x.ord.length = x.on
  o : ReadR w x.oA (x.ord.map (Value.int .i64))
  h : RB w x.hA x.hn x.beh
  g : RowsR w x.gA x.gn x.sig
theorem Shp.R.below {w w' : World} {x : Shp} (h : x.R w) (hb : Below w.heap.size w w') : x.R w' :=
  ⟨h.s.below hb, h.f.below hb, h.b.below hb, h.ol, h.o.below hb (Nat.le_refl _), h.h.below hb, h.g.below hb⟩
/-- One more place, if it is one and was not yet. -/
def ordStep (nb : Nat) (out : List Nat) (k : Int) : List Nat := if 0 ≤ k ∧ k < (nb : Int) ∧ out.contains k.toNat = false then out ++ [k.toNat] else out
def ordAll (nb : Nat) (l : List Int) : List Int := l ++ (List.range nb).map fun i : Nat => (i : Int)
/-- The order in which bodies lie. -/
def ordL (nb : Nat) (l : List Int) : List Nat := (ordAll nb l).foldl (ordStep nb) []
theorem ordAll_len (nb : Nat) (l : List Int) : (ordAll nb l).length = l.length + nb := by simp [ordAll]
theorem ordAll_lo (nb : Nat) (l : List Int) (i : Nat) (h : i < l.length) : (ordAll nb l)[i]? = l[i]? := List.getElem?_append_left h
theorem ordAll_hi (nb : Nat) (l : List Int) (i : Nat) (h : l.length ≤ i) (h2 : i < l.length + nb) : (ordAll nb l)[i]? = some ((i - l.length : Nat) : Int) := by
  unfold ordAll
  rw [List.getElem?_append_right h, List.getElem?_map, List.getElem?_range (by omega)]
  rfl
theorem fold_take {α β : Type} (f : β → α → β) (l : List α) (b : β) (i : Nat) (x : α) (hx : l[i]? = some x) : (l.take (i + 1)).foldl f b = f ((l.take i).foldl f b) x := by
  rw [List.take_add_one, hx, List.foldl_append]
  rfl
theorem ordStep_lt (nb : Nat) (out : List Nat) (k : Int) (h : ∀ x ∈ out, x < nb) : ∀ x ∈ ordStep nb out k, x < nb := by
  unfold ordStep
  split
  · rename_i hk
    intro x hx
    rcases List.mem_append.1 hx with hx | hx
    · exact h x hx
    · rw [List.mem_singleton.1 hx]; omega
  · exact h
theorem fold_inv {α β : Type} (f : β → α → β) (P : β → Prop) (h : ∀ b x, P b → P (f b x)) : ∀ (l : List α) (b : β), P b → P (l.foldl f b)
  | [], b, hb => hb
  | x :: r, b, hb => fold_inv f P h r _ (h b x hb)
/-- Which bodies were told by now. -/
def seenL (nb : Nat) (out : List Nat) : List Value := (List.range nb).map fun j => Value.bool (out.contains j)
theorem seen_at (nb : Nat) (out : List Nat) (j : Nat) (h : j < nb) : (seenL nb out)[j]? = some (.bool (out.contains j)) := by
  unfold seenL
  rw [List.getElem?_map, List.getElem?_range h]
  rfl
theorem seen_len (nb : Nat) (out : List Nat) : (seenL nb out).length = nb := by simp [seenL]
theorem seen_set (nb : Nat) (out : List Nat) (k : Nat) (h : k < nb) : (seenL nb out).set k (.bool true) = seenL nb (out ++ [k]) := by
  apply List.ext_getElem?
  intro j
  rw [List.getElem?_set, seen_len]
  by_cases hj : k = j
  · subst hj
    rw [if_pos rfl, if_pos h, seen_at _ _ _ h]
    simp
  · rw [if_neg hj]
    by_cases hj2 : j < nb
    · rw [seen_at _ _ _ hj2, seen_at _ _ _ hj2]
      congr 2
      rw [List.contains_append]
      have : [k].contains j = false := by simp; omega
      rw [this, Bool.or_false]
    · rw [List.getElem?_eq_none (by rw [seen_len]; omega), List.getElem?_eq_none (by rw [seen_len]; omega)]
theorem ordL_lt (nb : Nat) (l : List Int) (i : Nat) : ∀ x ∈ (((ordAll nb l).take i).foldl (ordStep nb) []), x < nb :=
  fold_inv (ordStep nb) (fun b => ∀ x ∈ b, x < nb) (fun b x h => ordStep_lt nb b x h) _ [] (fun x hx => by cases hx)
theorem ordStep_len (nb : Nat) (out : List Nat) (k : Int) : (ordStep nb out k).length ≤ out.length + 1 := by
  unfold ordStep
  split <;> simp
theorem ordL_len (nb : Nat) (l : List Int) : ∀ i, (((ordAll nb l).take i).foldl (ordStep nb) []).length ≤ i
  | 0 => by simp
  | i + 1 => by
    by_cases h : i < (ordAll nb l).length
    · rw [fold_take _ _ _ _ _ (List.getElem?_eq_getElem h)]
      exact Nat.le_trans (ordStep_len _ _ _) (Nat.succ_le_succ (ordL_len nb l i))
    · have h1 := ordL_len nb l i
      rw [List.take_of_length_le (by omega)] at h1
      rw [List.take_of_length_le (by omega)]
      omega
set_option maxHeartbeats 4000000 in
theorem order_any (x : Shp) (w : World) (hR : x.R w) (hon : x.on ≤ 1000) (hbn : x.bn ≤ 1000) (hoi : ∀ z ∈ x.ord, -9223372036854775808 ≤ z ∧ z ≤ 9223372036854775807) :
    Calls Tryz.prog 27 #[.agg x.cells] w fun e w' => ∃ (A : Option Addr) (n c : Nat), e = .returned (.slice A n c) ∧ n = (ordL x.bn x.ord).length ∧ OwnR w' w.heap.size 3 1 A n c ((ordL x.bn x.ord).map fun k => Value.int .i64 (k : Nat)) ∧ Below w.heap.size w w' := by
  have HR := Lib.hid hR.o
  have HOL := Lib.hid hR.ol
  obtain ⟨plus, sA, sn, sc, stub, fA, fn, fc, fill, bA, bn, bc, bod, oA, on, oc, ord, hA, hn, hc, beh, gA, gn, gc, sig⟩ := x
  dsimp only [Shp.cells] at *
  have HOI := Lib.hid hoi
  clear hR hoi
  go_enter Tryz.func27, Tryz.ntmps27
  have hkx : (w.alloc (.cells #[.bool plus, .slice sA sn sc, .slice fA fn fc, .slice bA bn bc, .slice oA on oc, .slice hA hn hc, .slice gA gn gc] 44)).heap[w.heap.size]? = some (.cells #[.bool plus, .slice sA sn sc, .slice fA fn fc, .slice bA bn bc, .slice oA on oc, .slice hA hn hc, .slice gA gn gc] 44) := has_new w _
  go_upto_region 2 with (fail)
  refine wp_nm fun W0 hW0 => ?_
  have k0 : W0.heap[w.heap.size]? = some (.cells #[.bool plus, .slice sA sn sc, .slice fA fn fc, .slice bA bn bc, .slice oA on oc, .slice hA hn hc, .slice gA gn gc] 44) := by rw [← hW0]; exact has_new w _
  have hb0 : Below w.heap.size w W0 := by rw [← hW0]; exact kp_alloc (Below.refl _ _) _
  have hs0 : w.heap.size + 1 = W0.heap.size := by rw [← hW0]; simp
  clear hW0 hkx
  obtain ⟨x0, x1, x2, x3, x4, x5, x6⟩ := cells_7 k0
  have H0 := Lib.hid (And.intro k0 (And.intro hb0 hs0))
  clear k0 hb0 hs0
  go_wp2_with (refine wpList_mkR bool_row _ _ rfl rfl _ _ _ _ bn rfl rfl rfl rfl (by unfold maxLen; omega) (by omega) ?_)
  intro w1 ho1 hg1
  have ho1' : OwnR w1 W0.heap.size 4 1 (some ⟨W0.heap.size, 0, none⟩) bn bn (seenL bn []) := by
    rw [show seenL bn [] = (madeCells #[Value.bool false] bn).toList by
      unfold seenL
      rw [toList_madeCells_one]
      apply List.ext_getElem?
      intro t
      rw [List.getElem?_map, List.getElem?_replicate]
      by_cases ht : t < bn
      · rw [List.getElem?_range ht, if_pos ht]; rfl
      · rw [if_neg ht, List.getElem?_eq_none (by simp; omega)]; rfl]
    exact ho1
  have hz1 : W0.heap.size < w1.heap.size := (ho1'.blk_lt rfl).2
  obtain ⟨g2, hg2⟩ : ∃ g2, W0.heap.size = g2 := ⟨_, rfl⟩
  rw [hg2] at ho1' hz1
  have hwg : w.heap.size < g2 := by have := H0.out.2.2; omega
  have H1 : Hid (w1.heap[w.heap.size]? = some (.cells #[.bool plus, .slice sA sn sc, .slice fA fn fc, .slice bA bn bc, .slice oA on oc, .slice hA hn hc, .slice gA gn gc] 44) ∧ Below w.heap.size w w1 ∧ OwnR w1 (w.heap.size + 1) 4 1 (some ⟨g2, 0, none⟩) bn bn (seenL bn [])) :=
    ⟨(hg1.block _ (block_lt H0.out.1) (fun e => by cases e)).trans H0.out.1, H0.out.2.1.grown hg1 H0.out.2.1.size (fun k hk => by cases hk), ho1'.lower (by omega)⟩
  have HG2 := Lib.hid hg2
  rw [hg2]
  clear ho1 ho1' hg1 hg2 x0 x1 x2 x3 x4 x5 x6 H0
  go_wp2_with (fail)
  go_loopw [3, 5] (fun vo vi wl => ∃ (i m c : Nat) (V : Option Addr), vo = .slice V m c ∧ vi = .int .i64 (i : Int) ∧ i ≤ on + bn ∧ Hid (m = (((ordAll bn ord).take i).foldl (ordStep bn) []).length) ∧ Hid (wl.heap[w.heap.size]? = some (.cells #[.bool plus, .slice sA sn sc, .slice fA fn fc, .slice bA bn bc, .slice oA on oc, .slice hA hn hc, .slice gA gn gc] 44)) ∧ Hid (Below w.heap.size w wl) ∧
      Hid (OwnR wl (w.heap.size + 1) 4 1 (some ⟨g2, 0, none⟩) bn bn (seenL bn (((ordAll bn ord).take i).foldl (ordStep bn) []))) ∧ Hid (OwnR wl (w.heap.size + 1) 3 1 V m c ((((ordAll bn ord).take i).foldl (ordStep bn) []).map fun k => Value.int .i64 (k : Nat)))) (fun _ vi _ => on + bn - (intOf vi).toNat)
  case atStart => exact ⟨0, 0, 0, none, rfl, rfl, Nat.zero_le _, rfl, H1.out.1, H1.out.2.1, H1.out.2.2, OwnR.nil _ _ _ _⟩
  case round =>
    obtain ⟨i, m, c, V, rfl, rfl, hi, HM, HX, HB, HS, HO⟩ := hrel
    have hml : m ≤ i := by have := HM.out; have := ordL_len bn ord i; omega
    obtain ⟨x0, x1, x2, x3, x4, x5, x6⟩ := cells_7 HX.out
    by_cases hlt : i < on + bn
    · have i1 : decide ((i : Int) < (on : Int) + (bn : Int)) = true := by simp; omega
      have e3 : IntKind.i64.wrap ((i : Int) + 1) = (i : Int) + 1 := IntWalk.i64_in _ (by omega)
      have hol := HOL.out
      obtain ⟨z, hz⟩ : ∃ z, (ordAll bn ord)[i]? = some z := ⟨_, List.getElem?_eq_getElem (by rw [ordAll_len]; omega)⟩
      have HF := Lib.hid (fold_take (ordStep bn) (ordAll bn ord) [] i z hz)
      obtain ⟨out, hout⟩ : ∃ out, ((ordAll bn ord).take i).foldl (ordStep bn) [] = out := ⟨_, rfl⟩
      have hlo := ordL_lt bn ord i
      rw [hout] at HM HS HO HF hlo
      clear hout
      by_cases hlo2 : i < on
      · have i2 : decide ((i : Int) < (on : Int)) = true := by simp; omega
        rw [ordAll_lo _ _ _ (by omega)] at hz
        obtain ⟨b, off, hoA, hbw, ck⟩ := HR.out.at_ (j := i) (u := .int .i64 z) (by rw [List.getElem?_map, hz]; rfl)
        have ck := kp_cell HB.out ck
        have hzb := HOI.out z (List.mem_of_getElem? hz)
        have e6 : IntKind.i64.wrap ((i : Int) - (on : Int)) = (i : Int) - (on : Int) := IntWalk.i64_in _ (by omega)
        subst hoA
        clear hz hbw
        by_cases hz0 : 0 ≤ z
        · obtain ⟨k, rfl⟩ : ∃ k : Nat, z = (k : Int) := ⟨z.toNat, by omega⟩
          have u1 : decide ((0 : Int) ≤ (k : Int)) = true := by simp
          by_cases hkb : k < bn
          · have u2 : decide ((k : Int) < (bn : Int)) = true := by simp; omega
            have d1 := ownR_at HS.out (seen_at bn out k hkb)
            have d2 := HS.out.free k
            cases hc9 : out.contains k with
            | true =>
              rw [hc9] at d1
              have HSAME : Hid (ordStep bn out (k : Int) = out) := by
                show ordStep _ _ _ = _
                unfold ordStep
                rw [if_neg (by rintro ⟨_, _, h⟩; simp only [Int.toNat_natCast] at h; rw [hc9] at h; cases h)]
              clear d2 hc9 hz0
              go_wp2_with (fail)
              go_roundw
              case rel => exact ⟨i + 1, m, c, V, by go_num, by go_num, by omega, by rw [HF.out, HSAME.out]; exact HM, HX, HB, by rw [HF.out, HSAME.out]; exact HS, by rw [HF.out, HSAME.out]; exact HO⟩
              case measure => simp [intOf]; omega
            | false =>
              rw [hc9] at d1
              have HSAME : Hid (ordStep bn out (k : Int) = out ++ [k]) := by
                show ordStep _ _ _ = _
                unfold ordStep
                rw [if_pos ⟨by omega, by omega, by simpa using hc9⟩]
                simp
              have hwb := HB.out.size
              have hxl := block_lt HX.out
              clear hc9 hz0
              go_wp2_with (at_builtin; refine wpList_appL int_row _ _ rfl rfl rfl (w.heap.size + 1) V m c _ rfl (HO.out.alloc _) _ 1 1 #[.int .i64 (k : Nat)] (0, 0) rfl (has_new _ _) rfl (by intro u hu; simp at hu; subst hu; rfl) (by unfold maxLen; omega) (by omega) (by simp; omega) ?_; intro V' c' w4 ho4 hg4; have hne4 := (OwnR.ne HS.out HO.out (by decide)); have HS4 := Lib.hid (OwnR.kept (HS.out.alloc (.cells #[.int .i64 (k : Nat)] 3)) hg4 hne4); have d3 := ownR_at HS4.out (seen_at bn out k hkb); have d4 := HS4.out.free k; have HX4 : Hid (w4.heap[w.heap.size]? = _) := (hg4.block _ (by simp; omega) (fun e => by have := (HO.out.blk_lt e.symm).1; omega)).trans (has_alloc HX.out _); have HB4 := Lib.hid ((kp_alloc HB.out (.cells #[.int .i64 (k : Nat)] 3)).grown hg4 (by simp; omega) (fun q hq => by have := (HO.out.blk_lt hq).1; omega)); have HO4 := Lib.hid ho4; clear ho4 hg4 hne4 d1 d2 HX HB HS HO)
              have HS5 : Hid (OwnR (w4.setCell ⟨g2, k, none⟩ (.bool true)) (w.heap.size + 1) 4 1 (some ⟨g2, 0, none⟩) bn bn (seenL bn (out ++ [k]))) := by
                have h1 := HS4.out.stored k (.bool true)
                rw [seen_set bn out k hkb] at h1
                exact h1
              have HO5 : Hid (OwnR (w4.setCell ⟨g2, k, none⟩ (.bool true)) (w.heap.size + 1) 3 1 V' (m + 1) c' ((out ++ [k]).map fun k => Value.int .i64 (k : Nat))) := by
                have h1 := HO4.out.kept (grown_one w4 g2 k (.bool true)) (OwnR.ne HO4.out HS4.out (by decide))
                refine Lib.hid ?_
                simpa using h1
              have HX5 : Hid ((w4.setCell ⟨g2, k, none⟩ (.bool true)).heap[w.heap.size]? = _) := (heap_set_far _ _ _ _ _ (by omega)).trans HX4.out
              have HB5 := Lib.hid (kp_set HB4.out (k := g2) (j := k) (u := .bool true) (by omega))
              clear HS4 HX4 HB4 HO4 d3 d4
              go_wp2_with (fail)
              go_roundw
              case rel => exact ⟨i + 1, m + 1, c', V', by go_num, by go_num, by omega, by have := HM.out; rw [HF.out, HSAME.out]; unfold Hid; simp; omega, HX5, HB5, by rw [HF.out, HSAME.out]; exact HS5, by rw [HF.out, HSAME.out]; exact HO5⟩
              case measure => simp [intOf]; omega
          · have u2 : decide ((k : Int) < (bn : Int)) = false := by simp; omega
            have HSAME : Hid (ordStep bn out (k : Int) = out) := by
              show ordStep _ _ _ = _
              unfold ordStep
              rw [if_neg (by rintro ⟨_, h, _⟩; omega)]
            clear hz0
            go_wp2_with (fail)
            go_roundw
            case rel => exact ⟨i + 1, m, c, V, by go_num, by go_num, by omega, by rw [HF.out, HSAME.out]; exact HM, HX, HB, by rw [HF.out, HSAME.out]; exact HS, by rw [HF.out, HSAME.out]; exact HO⟩
            case measure => simp [intOf]; omega
        · have u1 : decide ((0 : Int) ≤ z) = false := by simp; omega
          have HSAME : Hid (ordStep bn out z = out) := by
            show ordStep _ _ _ = _
            unfold ordStep
            rw [if_neg (by rintro ⟨h, _, _⟩; omega)]
          go_wp2_with (fail)
          go_roundw
          case rel => exact ⟨i + 1, m, c, V, by go_num, by go_num, by omega, by rw [HF.out, HSAME.out]; exact HM, HX, HB, by rw [HF.out, HSAME.out]; exact HS, by rw [HF.out, HSAME.out]; exact HO⟩
          case measure => simp [intOf]; omega
      · have i2 : decide ((i : Int) < (on : Int)) = false := by simp; omega
        rw [ordAll_hi _ _ _ (by omega) (by omega)] at hz
        obtain ⟨k, hk9⟩ : ∃ k, i - on = k := ⟨_, rfl⟩
        rw [hol, hk9] at hz
        obtain rfl : (k : Int) = z := by injection hz
        have hkb : k < bn := by omega
        have e6 : (i : Int) - (on : Int) = (k : Int) := by omega
        clear hz hk9
        have u1 : decide ((0 : Int) ≤ (k : Int)) = true := by simp
        have u2 : decide ((k : Int) < (bn : Int)) = true := by simp; omega
        have d1 := ownR_at HS.out (seen_at bn out k hkb)
        have d2 := HS.out.free k
        cases hc9 : out.contains k with
        | true =>
          rw [hc9] at d1
          have HSAME : Hid (ordStep bn out (k : Int) = out) := by
            show ordStep _ _ _ = _
            unfold ordStep
            rw [if_neg (by rintro ⟨_, _, h⟩; simp only [Int.toNat_natCast] at h; rw [hc9] at h; cases h)]
          clear d2 hc9
          go_wp2_with (fail)
          go_roundw
          case rel => exact ⟨i + 1, m, c, V, by go_num, by go_num, by omega, by rw [HF.out, HSAME.out]; exact HM, HX, HB, by rw [HF.out, HSAME.out]; exact HS, by rw [HF.out, HSAME.out]; exact HO⟩
          case measure => simp [intOf]; omega
        | false =>
          rw [hc9] at d1
          have HSAME : Hid (ordStep bn out (k : Int) = out ++ [k]) := by
            show ordStep _ _ _ = _
            unfold ordStep
            rw [if_pos ⟨by omega, by omega, by simpa using hc9⟩]
            simp
          have hwb := HB.out.size
          have hxl := block_lt HX.out
          clear hc9
          go_wp2_with (at_builtin; refine wpList_appL int_row _ _ rfl rfl rfl (w.heap.size + 1) V m c _ rfl (HO.out.alloc _) _ 1 1 #[.int .i64 (k : Nat)] (0, 0) rfl (has_new _ _) rfl (by intro u hu; simp at hu; subst hu; rfl) (by unfold maxLen; omega) (by omega) (by simp; omega) ?_; intro V' c' w4 ho4 hg4; have hne4 := (OwnR.ne HS.out HO.out (by decide)); have HS4 := Lib.hid (OwnR.kept (HS.out.alloc (.cells #[.int .i64 (k : Nat)] 3)) hg4 hne4); have d3 := ownR_at HS4.out (seen_at bn out k hkb); have d4 := HS4.out.free k; have HX4 : Hid (w4.heap[w.heap.size]? = _) := (hg4.block _ (by simp; omega) (fun e => by have := (HO.out.blk_lt e.symm).1; omega)).trans (has_alloc HX.out _); have HB4 := Lib.hid ((kp_alloc HB.out (.cells #[.int .i64 (k : Nat)] 3)).grown hg4 (by simp; omega) (fun q hq => by have := (HO.out.blk_lt hq).1; omega)); have HO4 := Lib.hid ho4; clear ho4 hg4 hne4 d1 d2 HX HB HS HO)
          have HS5 : Hid (OwnR (w4.setCell ⟨g2, k, none⟩ (.bool true)) (w.heap.size + 1) 4 1 (some ⟨g2, 0, none⟩) bn bn (seenL bn (out ++ [k]))) := by
            have h1 := HS4.out.stored k (.bool true)
            rw [seen_set bn out k hkb] at h1
            exact h1
          have HO5 : Hid (OwnR (w4.setCell ⟨g2, k, none⟩ (.bool true)) (w.heap.size + 1) 3 1 V' (m + 1) c' ((out ++ [k]).map fun k => Value.int .i64 (k : Nat))) := by
            have h1 := HO4.out.kept (grown_one w4 g2 k (.bool true)) (OwnR.ne HO4.out HS4.out (by decide))
            refine Lib.hid ?_
            simpa using h1
          have HX5 : Hid ((w4.setCell ⟨g2, k, none⟩ (.bool true)).heap[w.heap.size]? = _) := (heap_set_far _ _ _ _ _ (by omega)).trans HX4.out
          have HB5 := Lib.hid (kp_set HB4.out (k := g2) (j := k) (u := .bool true) (by omega))
          clear HS4 HX4 HB4 HO4 d3 d4
          go_wp2_with (fail)
          go_roundw
          case rel => exact ⟨i + 1, m + 1, c', V', by go_num, by go_num, by omega, by have := HM.out; rw [HF.out, HSAME.out]; unfold Hid; simp; omega, HX5, HB5, by rw [HF.out, HSAME.out]; exact HS5, by rw [HF.out, HSAME.out]; exact HO5⟩
          case measure => simp [intOf]; omega
    · have i1 : decide ((i : Int) < (on : Int) + (bn : Int)) = false := by simp; omega
      obtain rfl : i = on + bn := by omega
      clear x0 x1 x2 x5 x6
      go_wp2_with (fail)
      go_ret
      have htk : (ordAll bn ord).take (on + bn) = ordAll bn ord := List.take_of_length_le (by rw [ordAll_len]; have := HOL.out; omega)
      rw [htk] at HM HO
      exact ⟨V, m, c, rfl, HM.out, HO.out.lower (by omega), HB.out⟩
end Go.Proofs.YtcedojmhgmgcgaaGreatDoor
namespace Go.Proofs.YtcedojmhgmgcgaaGreatDoor
open Go.RowKit Go
set_option linter.unusedVariables false
set_option maxRecDepth 100000
def sizeL (plus : Bool) : Nat := if plus then 240 else 224
def magL (plus : Bool) : Nat := if plus then 523 else 267
/-- Where things stand in an image that is made. -/
def peL (stub : List UInt8) : Nat := 64 + stub.length
def opL (stub : List UInt8) : Nat := peL stub + 24
def tbL (plus : Bool) (stub : List UInt8) : Nat := opL stub + sizeL plus
def hdL (plus : Bool) (stub fill : List UInt8) (nb : Nat) : Nat := tbL plus stub + 40 * nb + fill.length
def dosL : List UInt8 := [77, 90] ++ List.replicate 62 0
def blankL (plus : Bool) (stub fill : List UInt8) (nb : Nat) : List UInt8 := putL dosL 60 (peL stub) 4 ++ stub ++ List.replicate (24 + sizeL plus + 40 * nb) 0 ++ fill
def headL (plus : Bool) (stub fill : List UInt8) (nb : Nat) : List UInt8 :=
  putL (putL (putL (putL (putL (putL (blankL plus stub fill nb) (peL stub) 17744 4) (peL stub + 6) nb 2) (peL stub + 20) (sizeL plus) 2) (opL stub) (magL plus) 2) (opL stub + 60) (hdL plus stub fill nb) 4) (tbL plus stub - 132) 16 4
/-- A body is laid behind what there is, and told in the section table. -/
def bodStep (bods : List (List UInt8)) (tb : Nat) (b : List UInt8) (k : Nat) : List UInt8 :=
  if 0 < (bods.getD k []).length then putL (putL b (tb + 40 * k + 16) (bods.getD k []).length 4) (tb + 40 * k + 20) b.length 4 ++ bods.getD k [] else b
def bodsL (plus : Bool) (stub fill : List UInt8) (bods : List (List UInt8)) (ord : List Int) : List UInt8 := (ordL bods.length ord).foldl (bodStep bods (tbL plus stub)) (headL plus stub fill bods.length)
def padL (b : List UInt8) : List UInt8 := b ++ List.replicate ((8 - b.length % 8) % 8) 0
def sealL (tb : Nat) (b : List UInt8) (sigs : List (List UInt8)) : List UInt8 :=
  if sigs = [] then b else putL (putL (padL b) (tb - 96) (padL b).length 4) (tb - 92) (tableL sigs).length 4 ++ tableL sigs
def writeL (plus : Bool) (stub fill : List UInt8) (bods : List (List UInt8)) (ord : List Int) (beh : List UInt8) (sigs : List (List UInt8)) : List UInt8 :=
  sealL (tbL plus stub) (bodsL plus stub fill bods ord ++ beh) sigs
theorem blank_len (plus : Bool) (stub fill : List UInt8) (nb : Nat) : (blankL plus stub fill nb).length = hdL plus stub fill nb := by
  unfold blankL hdL tbL opL peL
  simp only [List.length_append, List.length_replicate]
  have hd : dosL.length = 64 := by decide
  rw [putL_len _ _ _ _ (by rw [hd]; omega), hd]
  omega
theorem putL_le {bs : List UInt8} {a x k N : Nat} (h : bs.length = N) (h2 : a + k ≤ N) : (putL bs a x k).length = N := by rw [putL_len _ _ _ _ (by omega), h]
theorem head_len (plus : Bool) (stub fill : List UInt8) (nb : Nat) : (headL plus stub fill nb).length = hdL plus stub fill nb := by
  have h0 := blank_len plus stub fill nb
  have hs : sizeL plus = 240 ∨ sizeL plus = 224 := by unfold sizeL; split <;> simp
  have hh : hdL plus stub fill nb = tbL plus stub + 40 * nb + fill.length := rfl
  have ht : tbL plus stub = opL stub + sizeL plus := rfl
  have hp : opL stub = peL stub + 24 := rfl
  unfold headL
  exact putL_le (putL_le (putL_le (putL_le (putL_le (putL_le h0 (by omega)) (by omega)) (by omega)) (by omega)) (by omega)) (by omega)
/-- The image's bytes, the shape's block, all else as it was. -/
structure WS (w : World) (o : Obj) (g n c : Nat) (bs : List UInt8) (W : World) : Prop where
  own : OwnB W (w.heap.size + 1) (some ⟨g, 0, none⟩) n c bs
  x : W.heap[w.heap.size]? = some o
  b : Below w.heap.size w W
section
variable {w : World} {o : Obj} {g n c : Nat} {bs : List UInt8} {W W' : World}
theorem WS.put (h : WS w o g n c bs W) {bs' : List UInt8} (ho : OwnB W' (w.heap.size + 1) (some ⟨g, 0, none⟩) n c bs') (hg : W.grownBy W' (some g)) : WS w o g n c bs' W' := by
  have hl : w.heap.size + 1 ≤ g := (h.own.blk_lt rfl).1
  exact ⟨ho, (hg.block _ (block_lt h.x) (fun e => by have e9 : w.heap.size = g := Option.some.inj e; omega)).trans h.x, h.b.grown hg h.b.size (fun k hk => by have e9 : g = k := Option.some.inj hk; omega)⟩
theorem WS.app (h : WS w o g n c bs W) {A : Option Addr} {n' c' : Nat} {bs' : List UInt8} (ho : OwnB W' (w.heap.size + 1) A n' c' bs') (hg : W.grownBy W' (some g)) (hn : 0 < n') : ∃ g', A = some ⟨g', 0, none⟩ ∧ WS w o g' n' c' bs' W' := by
  have hl : w.heap.size + 1 ≤ g := (h.own.blk_lt rfl).1
  obtain ⟨g', rfl, _, _⟩ := ho.shape (by have := ho.cap.1; omega)
  exact ⟨g', rfl, ho, (hg.block _ (block_lt h.x) (fun e => by have e9 : w.heap.size = g := Option.some.inj e; omega)).trans h.x, h.b.grown hg h.b.size (fun k hk => by have e9 : g = k := Option.some.inj hk; omega)⟩
theorem WS.new (h : WS w o g n c bs W) (hb : Below W.heap.size W W') : WS w o g n c bs W' := ⟨h.own.below hb (Nat.le_refl _), has_below h.x hb, kp_call h.b hb⟩
theorem WS.alloc (h : WS w o g n c bs W) (o' : Obj) : WS w o g n c bs (W.alloc o') := h.new ((Below.refl _ _).alloc (Nat.le_refl _) o')
theorem WS.drewN (h : WS w o g n c bs W) (k : Nat) : WS w o g n c bs (W.drewN k) := h.new (kp_drewN (Below.refl _ _) k)
end
set_option maxHeartbeats 8000000 in
theorem writeD_any (x : Shp) (w : World) (hR : x.R w) (hs : x.sn ≤ 1000 ∧ x.fn ≤ 1000 ∧ x.hn ≤ 1000 ∧ x.bn ≤ 20 ∧ x.on ≤ 100 ∧ x.gn ≤ 20) (hbl : ∀ y ∈ x.bod, y.2.2.2.length ≤ 1000) (hgl : ∀ y ∈ x.sig, y.2.2.2.length ≤ 400) (hoi : ∀ z ∈ x.ord, -9223372036854775808 ≤ z ∧ z ≤ 9223372036854775807) :
    Calls Tryz.prog 12 #[.agg x.cells] w (Fresh w (writeL x.plus x.stub x.fill (x.bod.map fun y => y.2.2.2) x.ord x.beh (x.sig.map fun y => y.2.2.2))) := by
  have HR := Lib.hid hR
  have CO := Lib.hid (fun W (hb : Below w.heap.size w W) => order_any x W (hR.below hb) (by omega) (by omega) hoi)
  have hl1 := hR.s.1
  have hl2 := hR.f.1
  have hl3 := hR.b.l
  have hl4 := hR.g.l
  have hl5 := hR.h.1
  obtain ⟨plus, sA, sn, sc, stub, fA, fn, fc, fill, bA, bn, bc, bod, oA, on, oc, ord, hA, hn, hc, beh, gA, gn, gc, sig⟩ := x
  dsimp only [Shp.cells] at *
  obtain ⟨hs1, hs2, hs3, hs4, hs5, hs6⟩ := hs
  have HBL := Lib.hid hbl
  have HGL := Lib.hid hgl
  have HLS := Lib.hid (And.intro hl1 (And.intro hl2 (And.intro hl3 (And.intro hl4 hl5))))
  obtain ⟨sz, hsz⟩ : ∃ z, sizeL plus = z := ⟨_, rfl⟩
  obtain ⟨mg, hmg⟩ : ∃ z, magL plus = z := ⟨_, rfl⟩
  have hsz2 : sz = 240 ∨ sz = 224 := by rw [← hsz]; unfold sizeL; split <;> simp
  have hmg2 : mg < 65536 := by rw [← hmg]; unfold magL; split <;> simp
  obtain ⟨pe, hpe⟩ : ∃ z, 64 + sn = z := ⟨_, rfl⟩
  obtain ⟨op, hop⟩ : ∃ z, pe + 24 = z := ⟨_, rfl⟩
  obtain ⟨tb, htb⟩ : ∃ z, op + sz = z := ⟨_, rfl⟩
  obtain ⟨hd, hhd⟩ : ∃ z, tb + 40 * bn + fn = z := ⟨_, rfl⟩
  have HE := Lib.hid (And.intro hsz (And.intro hmg (And.intro hpe (And.intro hop (And.intro htb hhd)))))
  have q1 : pe ≤ 1064 ∧ op ≤ 1100 ∧ tb ≤ 1400 ∧ hd ≤ 4000 ∧ 224 ≤ sz ∧ sz ≤ 240 := by omega
  have e1 : 64 + (sn : Int) = (pe : Int) := by omega
  have e2 : (pe : Int) + 24 = (op : Int) := by omega
  have e3 : (op : Int) + (sz : Int) = (tb : Int) := by omega
  have e4 : (tb : Int) + 40 * (bn : Int) + (fn : Int) = (hd : Int) := by omega
  have e5 : IntKind.u64.wrap (pe : Int) = (pe : Int) := by rw [IntKind.wrap_u64]; omega
  have e6 : IntKind.u64.wrap (bn : Int) = (bn : Int) := by rw [IntKind.wrap_u64]; omega
  have e7 : IntKind.u64.wrap (sz : Int) = (sz : Int) := by rw [IntKind.wrap_u64]; omega
  have e8 : IntKind.u64.wrap (hd : Int) = (hd : Int) := by rw [IntKind.wrap_u64]; omega
  clear hR hbl hgl hoi hl1 hl2 hl3 hl4 hl5 hsz hmg hpe hop htb hhd
  go_enter Tryz.func12, Tryz.ntmps12
  go_upto_if 15 with (fail)
  refine wp_nm fun W0 hW0 => ?_
  have k0 : W0.heap[w.heap.size]? = some (.cells #[.bool plus, .slice sA sn sc, .slice fA fn fc, .slice bA bn bc, .slice oA on oc, .slice hA hn hc, .slice gA gn gc] 44) := by rw [← hW0]; exact has_new w _
  have hb0 : Below w.heap.size w W0 := by rw [← hW0]; exact kp_alloc (Below.refl _ _) _
  have hs0 : w.heap.size + 1 = W0.heap.size := by rw [← hW0]; simp
  clear hW0
  go_cut [3, 4] (fun s3 s4 wx => s3 = .int .i64 (sz : Int) ∧ s4 = .int .u64 (mg : Int) ∧ wx = W0)
  case first => as_aux_lemma =>
    obtain ⟨hsz, hmg, _⟩ := HE.out
    cases plus with
    | true =>
      unfold sizeL at hsz
      unfold magL at hmg
      go_wp2_with (fail)
      go_meet
      exact ⟨by rw [← hsz]; rfl, by rw [← hmg]; rfl, rfl⟩
    | false =>
      unfold sizeL at hsz
      unfold magL at hmg
      go_wp2_with (fail)
      go_meet
      exact ⟨by rw [← hsz]; rfl, by rw [← hmg]; rfl, rfl⟩
  case rest =>
  obtain ⟨h3, h4, h5⟩ := hcut
  subst h3
  subst h4
  rw [h5]
  clear h5
  obtain ⟨x0, x1, x2, x3, x4, x5, x6⟩ := cells_7 k0
  go_wp2_with (refine wpList_mk _ _ rfl rfl _ _ _ _ 64 rfl rfl rfl rfl (by omega) ?_)
  intro w1 ho1 hg1
  have hgg : w.heap.size + 1 ≤ W0.heap.size := Nat.le_of_eq hs0
  have HS : Hid (WS w (.cells #[.bool plus, .slice sA sn sc, .slice fA fn fc, .slice bA bn bc, .slice oA on oc, .slice hA hn hc, .slice gA gn gc] 44) W0.heap.size 64 64 (List.replicate 64 0) w1) := ⟨ho1.lower hgg, (hg1.block _ (block_lt k0) (fun e => by cases e)).trans k0, hb0.grown hg1 hb0.size (fun k hk => by cases hk)⟩
  obtain ⟨g, hg⟩ : ∃ g, W0.heap.size = g := ⟨_, rfl⟩
  rw [hg] at HS ⊢
  have d0 : w1.cell? ⟨g, 0, none⟩ = some (.int .u8 0) := HS.out.own.cellAt 0 0 rfl
  have d1 : w1.cell? ⟨g, 1, none⟩ = some (.int .u8 0) := HS.out.own.cellAt 1 0 rfl
  have f0 := HS.out.own.free 0
  have f1 := HS.out.own.free 1
  clear ho1 hg1 k0 hb0 hs0 hgg hg x0 x1 x2 x3 x4 x5 x6
  go_upto_region 13 with (fail)
  refine wp_nm fun W1 hW1 => ?_
  replace HS : Hid (WS w (.cells #[.bool plus, .slice sA sn sc, .slice fA fn fc, .slice bA bn bc, .slice oA on oc, .slice hA hn hc, .slice gA gn gc] 44) g 64 64 dosL W1) := by
    have h1 := (HS.out.own.stored 0 77).stored 1 90
    rw [← hW1]
    exact HS.out.put h1 (grown_tr (grown_one _ _ _ _) (grown_one _ _ _ _))
  clear hW1 d0 d1 f0 f1
  have C := Lib.hid (putD_any g 64 64 _ _ 60 (pe : Int) 4 60 pe 4 W1 HS.out.own (by omega) (by omega) (by decide) (by omega) (by decide) (by omega) (by omega))
  go_wp2_with (fail)
  (with_reducible refine C.out.mono ?_)
  clear C
  rintro e W2 ⟨rfl, ho9, hg9⟩
  replace HS := Lib.hid (HS.out.put ho9 hg9)
  clear ho9 hg9
  obtain ⟨x0, x1, x2, x3, x4, x5, x6⟩ := cells_7 HS.out.x
  have hzb : w.heap.size + 1 ≤ W2.heap.size := block_lt HS.out.x
  go_wp2_with (at_builtin; refine wpList_apn _ _ rfl rfl rfl (w.heap.size + 1) (some ⟨g, 0, none⟩) 64 64 _ rfl HS.out.own sA sn sc stub rfl (HR.out.s.below HS.out.b) (by omega) hzb ?_)
  intro A9 c1 W3 ho9 hg9
  obtain ⟨g1, rfl, hs9⟩ := HS.out.app ho9 hg9 (by omega)
  replace HS := Lib.hid hs9
  clear ho9 hg9 hs9 hzb
  have hnn : 64 + sn = pe := by have := HE.out; omega
  rw [hnn] at HS ⊢
  clear hnn
  clear x0 x1 x2 x3 x4 x5 x6
  obtain ⟨x0, x1, x2, x3, x4, x5, x6⟩ := cells_7 HS.out.x
  obtain ⟨rl, hrl⟩ : ∃ z, 24 + sz + 40 * bn = z := ⟨_, rfl⟩
  have HRL := Lib.hid hrl
  have r1 : (hd : Int) - (fn : Int) - (pe : Int) = (rl : Int) := by have := HE.out; omega
  have hrl2 : rl ≤ 1100 := by omega
  clear hrl
  go_wp2_with (refine wpList_mk _ _ rfl rfl _ _ _ _ rl rfl rfl rfl rfl (by omega) ?_)
  intro w9 ho9 hg9
  have hb9 : Below W3.heap.size W3 w9 := (Below.refl _ _).grown hg9 (Nat.le_refl _) (fun k hk => by cases hk)
  replace HS := Lib.hid (HS.out.new hb9)
  have HRST := Lib.hid ho9.rb
  obtain ⟨gr, hgr⟩ : ∃ z, W3.heap.size = z := ⟨_, rfl⟩
  rw [hgr] at HRST ⊢
  clear hgr ho9 hg9 hb9 r1 x0 x1 x2 x3 x4 x5 x6
  obtain ⟨W100, hW100⟩ : ∃ z, w9 = z := ⟨_, rfl⟩
  rw [hW100] at HS HRST ⊢
  clear hW100
  have hzb : w.heap.size + 1 ≤ W100.heap.size := block_lt HS.out.x
  go_wp2_with (at_builtin; refine wpList_apn _ _ rfl rfl rfl (w.heap.size + 1) (some ⟨g1, 0, none⟩) pe c1 _ rfl HS.out.own (some ⟨gr, 0, none⟩) rl rl _ rfl (HRST.out) (by omega) hzb ?_)
  intro A9 c2 W101 ho9 hg9
  obtain ⟨g2, rfl, hs9⟩ := HS.out.app ho9 hg9 (by omega)
  replace HS := Lib.hid hs9
  clear ho9 hg9 hs9 hzb
  obtain ⟨x0, x1, x2, x3, x4, x5, x6⟩ := cells_7 HS.out.x
  have hzb : w.heap.size + 1 ≤ W101.heap.size := block_lt HS.out.x
  go_wp2_with (at_builtin; refine wpList_apn _ _ rfl rfl rfl (w.heap.size + 1) (some ⟨g2, 0, none⟩) (pe + rl) c2 _ rfl HS.out.own fA fn fc fill rfl (HR.out.f.below HS.out.b) (by omega) hzb ?_)
  intro A9 c3 W102 ho9 hg9
  obtain ⟨g3, rfl, hs9⟩ := HS.out.app ho9 hg9 (by omega)
  replace HS := Lib.hid hs9
  clear ho9 hg9 hs9 hzb
  have hnn : pe + rl + fn = hd := by have := HE.out; have := HRL.out; omega
  rw [hnn] at HS ⊢
  clear hnn x0 x1 x2 x3 x4 x5 x6
  have C := Lib.hid (putD_any g3 hd c3 _ _ (pe : Int) 17744 4 pe 17744 4 W102 HS.out.own (by omega) (by omega) (by decide) (by omega) (by decide) (by omega) (by omega))
  go_wp2_with (fail)
  (with_reducible refine C.out.mono ?_)
  clear C
  rintro e W103 ⟨rfl, ho9, hg9⟩
  replace HS := Lib.hid (HS.out.put ho9 hg9)
  clear ho9 hg9
  obtain ⟨x0, x1, x2, x3, x4, x5, x6⟩ := cells_7 HS.out.x
  have C := Lib.hid (putD_any g3 hd c3 _ _ ((pe : Int) + 6) (bn : Int) 2 (pe + 6) bn 2 W103 HS.out.own (by omega) (by omega) (by decide) (by omega) (by decide) (by omega) (by omega))
  go_wp2_with (fail)
  (with_reducible refine C.out.mono ?_)
  clear C
  rintro e W104 ⟨rfl, ho9, hg9⟩
  replace HS := Lib.hid (HS.out.put ho9 hg9)
  clear ho9 hg9
  clear x0 x1 x2 x3 x4 x5 x6
  have C := Lib.hid (putD_any g3 hd c3 _ _ ((pe : Int) + 20) (sz : Int) 2 (pe + 20) sz 2 W104 HS.out.own (by omega) (by omega) (by decide) (by omega) (by decide) (by omega) (by omega))
  go_wp2_with (fail)
  (with_reducible refine C.out.mono ?_)
  clear C
  rintro e W105 ⟨rfl, ho9, hg9⟩
  replace HS := Lib.hid (HS.out.put ho9 hg9)
  clear ho9 hg9
  have C := Lib.hid (putD_any g3 hd c3 _ _ (op : Int) (mg : Int) 2 op mg 2 W105 HS.out.own (by omega) (by omega) (by decide) (by omega) (by decide) (by omega) (by omega))
  go_wp2_with (fail)
  (with_reducible refine C.out.mono ?_)
  clear C
  rintro e W106 ⟨rfl, ho9, hg9⟩
  replace HS := Lib.hid (HS.out.put ho9 hg9)
  clear ho9 hg9
  have C := Lib.hid (putD_any g3 hd c3 _ _ ((op : Int) + 60) (hd : Int) 4 (op + 60) hd 4 W106 HS.out.own (by omega) (by omega) (by decide) (by omega) (by decide) (by omega) (by omega))
  go_wp2_with (fail)
  (with_reducible refine C.out.mono ?_)
  clear C
  rintro e W107 ⟨rfl, ho9, hg9⟩
  replace HS := Lib.hid (HS.out.put ho9 hg9)
  clear ho9 hg9
  have C := Lib.hid (putD_any g3 hd c3 _ _ ((tb : Int) - 128 - 4) 16 4 (tb - 132) 16 4 W107 HS.out.own (by omega) (by omega) (by decide) (by omega) (by decide) (by omega) (by omega))
  go_wp2_with (fail)
  (with_reducible refine C.out.mono ?_)
  clear C
  rintro e W108 ⟨rfl, ho9, hg9⟩
  replace HS := Lib.hid (HS.out.put ho9 hg9)
  clear ho9 hg9
  have hpeL : peL stub = pe := by unfold peL; rw [HLS.out.1]; exact HE.out.2.2.1
  have hopL : opL stub = op := by unfold opL; rw [hpeL]; exact HE.out.2.2.2.1
  have htbL : tbL plus stub = tb := by unfold tbL; rw [hopL, HE.out.1]; exact HE.out.2.2.2.2.1
  have hhdL : hdL plus stub fill bn = hd := by unfold hdL; rw [htbL, HLS.out.2.1]; exact HE.out.2.2.2.2.2
  obtain ⟨H, hH⟩ : ∃ H, headL plus stub fill bn = H := ⟨_, rfl⟩
  have HH := Lib.hid (And.intro hH htbL)
  unfold headL blankL at hH
  rw [hpeL, hopL, htbL, hhdL, HE.out.1, HE.out.2.1, HRL.out] at hH
  have h9 := HS.out
  simp only [List.append_assoc] at hH h9
  rw [hH] at h9
  replace HS := Lib.hid h9
  clear h9 hH hpeL hopL htbL hhdL
  obtain ⟨x0, x1, x2, x3, x4, x5, x6⟩ := cells_7 HS.out.x
  obtain ⟨O0, hO0⟩ : ∃ z, ordL bn ord = z := ⟨_, rfl⟩
  have HOR := Lib.hid hO0
  rw [hO0] at CO
  have HOLT : Hid (∀ y ∈ O0, y < bn) := by
    rw [← hO0]
    have h1 := ordL_lt bn ord (ordAll bn ord).length
    rw [List.take_length] at h1
    exact h1
  have HOLL : Hid (O0.length ≤ 120) := by
    have h1 := ordL_len bn ord (ordAll bn ord).length
    rw [List.take_length] at h1
    rw [ordAll_len] at h1
    have h2 : (ordL bn ord).length ≤ ord.length + bn := h1
    have h3 := HR.out.ol
    dsimp only at h3
    rw [hO0] at h2
    show O0.length ≤ 120
    omega
  clear hO0
  go_wp2_with (fail)
  (with_reducible refine (CO.out _ HS.out.b).mono ?_)
  clear CO
  rintro e WL ⟨oA2, on2, oc2, rfl, hon2, ho2, hb2⟩
  obtain ⟨D, hD⟩ : ∃ z, W108.heap.size = z := ⟨_, rfl⟩
  have HI := Lib.hid ho2
  replace HS := Lib.hid (HS.out.new hb2)
  rw [hD] at HI
  have HON := Lib.hid hon2
  have hon3 : on2 ≤ 120 := by have := HOLL.out; omega
  clear hD ho2 hb2 hon2 x0 x1 x2 x3 x4 x5 x6 e1 e2 e3 e4 e5 e6 e7 e8 hmg2 hrl2
  go_wp2_with (fail)
  go_loopw [9, 12] (fun vb vi wl => ∃ (i nb cb gb : Nat), vb = .slice (some ⟨gb, 0, none⟩) nb cb ∧ vi = .int .i64 (i : Int) ∧ i ≤ on2 ∧ nb ≤ hd + i * 1000 ∧ Hid (WS w (.cells #[.bool plus, .slice sA sn sc, .slice fA fn fc, .slice bA bn bc, .slice oA on oc, .slice hA hn hc, .slice gA gn gc] 44) gb nb cb ((O0.take i).foldl (bodStep (bod.map fun y => y.2.2.2) tb) H) wl) ∧ Hid (tb + 40 * bn ≤ nb) ∧ Hid (OwnR wl D 3 1 oA2 on2 oc2 (O0.map fun k => Value.int .i64 (k : Nat)))) (fun _ vi _ => on2 - (intOf vi).toNat)
  case atStart => exact ⟨0, hd, c3, g3, rfl, rfl, Nat.zero_le _, by omega, HS, by have := HE.out; show tb + 40 * bn ≤ hd; omega, HI⟩
  case round =>
    obtain ⟨i, nb, cb, gb, rfl, rfl, hi, hnb, HS, HTN, HI⟩ := hrel
    obtain ⟨x0, x1, x2, x3, x4, x5, x6⟩ := cells_7 HS.out.x
    by_cases hlt : i < on2
    · have i1 : decide ((i : Int) < (on2 : Int)) = true := by simp; omega
      have j3 : IntKind.i64.wrap ((i : Int) + 1) = (i : Int) + 1 := IntWalk.i64_in _ (by omega)
      obtain ⟨k, hk⟩ : ∃ k, O0[i]? = some k := ⟨_, List.getElem?_eq_getElem (by have := HON.out; omega)⟩
      have hkb := HOLT.out k (List.mem_of_getElem? hk)
      have HF := Lib.hid (fold_take (bodStep (bod.map fun y => y.2.2.2) tb) O0 H i k hk)
      obtain ⟨y, hy⟩ : ∃ y, bod[k]? = some y := ⟨_, List.getElem?_eq_getElem (by have := HLS.out.2.2.1; omega)⟩
      have hyl := HBL.out y (List.mem_of_getElem? hy)
      have hgd : (bod.map fun y => y.2.2.2).getD k [] = y.2.2.2 := by rw [List.getD_eq_getElem?_getD, List.getElem?_map, hy]; rfl
      have HYR := Lib.hid (HR.out.b.rb y (List.mem_of_getElem? hy))
      obtain ⟨bI, oI, hoA2, hbI, cI⟩ := HI.out.reads.at_ (j := i) (u := .int .i64 (k : Int)) (by rw [List.getElem?_map, hk]; rfl)
      obtain ⟨bB, oB, hbA, hbB, cB0⟩ := HR.out.b.at_ hy
      dsimp only at hbA
      have CB : Hid (∀ W, Below w.heap.size w W → W.cell? ⟨bB, oB + k, none⟩ = some y.val) := fun W hW => kp_cell hW cB0
      have CI : Hid (∀ W, OwnR W D 3 1 (some ⟨bI, oI, none⟩) on2 oc2 (O0.map fun k => Value.int .i64 (k : Nat)) → W.cell? ⟨bI, oI + i, none⟩ = some (.int .i64 (k : Int))) := fun W hW => by
        obtain ⟨b', o', e, _, hc⟩ := hW.reads.at_ (j := i) (u := .int .i64 (k : Int)) (by rw [List.getElem?_map, hk]; rfl)
        cases e
        exact hc
      have cB := CB.out wr HS.out.b
      subst hoA2
      subst hbA
      obtain ⟨ya, yn, yc, yb⟩ := y
      dsimp only [Own1.val] at hyl hgd HYR CB cB
      have hyn := HYR.out.1
      obtain ⟨cur, hcur⟩ : ∃ z, (O0.take i).foldl (bodStep (bod.map fun y => y.2.2.2) tb) H = z := ⟨_, rfl⟩
      rw [hcur] at HS HF
      have hcl := HS.out.own.len
      have HCL := Lib.hid hcl
      have HGD := Lib.hid hgd
      clear hk hy hbI hbB cB0 hcur hcl hgd
      by_cases h0 : 0 < yn
      · have t1 : decide ((0 : Int) < (yn : Int)) = true := by simp; omega
        have u1 : IntKind.u64.wrap (yn : Int) = (yn : Int) := by rw [IntKind.wrap_u64]; omega
        have u2 : IntKind.u64.wrap (nb : Int) = (nb : Int) := by rw [IntKind.wrap_u64]; omega
        go_wp2_with (fail)
        go_quiet (fail)
        have HSa := Lib.hid (HS.out.drewN nq)
        have HIa := Lib.hid (HI.out.drewN nq)
        generalize wr.drewN nq = wa at *
        clear HS HI cI cB x0 x1 x2 x3 x4 x5 x6
        obtain ⟨x0, x1, x2, x3, x4, x5, x6⟩ := cells_7 HSa.out.x
        have cI := CI.out wa HIa.out
        have cB := CB.out wa HSa.out.b
        have htn : tb + 40 * k + 24 ≤ nb := by have := HTN.out; omega
        have C := Lib.hid (putD_any gb nb cb _ _ ((tb : Int) + 40 * (k : Int) + 16) (yn : Int) 4 (tb + 40 * k + 16) yn 4 wa.drew (HSa.out.drewN 1).own (by omega) rfl (by decide) (by omega) (by decide) (by omega) (by omega))
        go_wp2_with (fail)
        refine wp_region_still_tail 19 (by kernel_rfl) (by kernel_rfl) ?_
        simp only [List.take_succ_cons, List.take_zero, List.drop_succ_cons, List.drop_zero]
        iterate 19 ((with_reducible refine wpStill_step (fun K hK => ?_)); go_simp; (with_reducible refine hK _ ?_); clear hK K)
        with_reducible refine wpStill_nil ?_
        change wpList _ _ _ _ _ wa.drew
        go_wp2_with (fail)
        (with_reducible refine C.out.mono ?_)
        clear C
        rintro e wb ⟨rfl, ho9, hg9⟩
        have HIb := Lib.hid ((HIa.out.drewN 1).kept hg9 (OwnR.ne (HIa.out.drewN 1) (HSa.out.drewN 1).own.row (by decide)))
        have HSb := Lib.hid ((HSa.out.drewN 1).put ho9 hg9)
        clear ho9 hg9 HSa HIa cI cB x0 x1 x2 x3 x4 x5 x6
        have cI := CI.out wb HIb.out
        have C := Lib.hid (putD_any gb nb cb _ _ ((tb : Int) + 40 * (k : Int) + 20) (nb : Int) 4 (tb + 40 * k + 20) nb 4 wb HSb.out.own (by omega) rfl (by decide) (by omega) (by decide) (by omega) (by omega))
        go_wp2_with (fail)
        (with_reducible refine C.out.mono ?_)
        clear C
        rintro e wd ⟨rfl, ho9, hg9⟩
        have HIc := Lib.hid (HIb.out.kept hg9 (OwnR.ne HIb.out HSb.out.own.row (by decide)))
        have HSc := Lib.hid (HSb.out.put ho9 hg9)
        clear ho9 hg9 HSb HIb cI
        obtain ⟨x0, x1, x2, x3, x4, x5, x6⟩ := cells_7 HSc.out.x
        have cI := CI.out wd HIc.out
        have cB := CB.out wd HSc.out.b
        have hzb : w.heap.size + 1 ≤ wd.drew.heap.size := block_lt HSc.out.x
        go_wp2_with (fail)
        refine wp_region_still_tail 9 (by kernel_rfl) (by kernel_rfl) ?_
        simp only [List.take_succ_cons, List.take_zero, List.drop_succ_cons, List.drop_zero]
        iterate 9 ((with_reducible refine wpStill_step (fun K hK => ?_)); go_simp; (with_reducible refine hK _ ?_); clear hK K)
        with_reducible refine wpStill_nil ?_
        change wpList _ _ _ _ _ wd.drew
        go_wp2_with (at_builtin; refine wpList_apn _ _ rfl rfl rfl (w.heap.size + 1) (some ⟨gb, 0, none⟩) nb cb _ rfl (HSc.out.drewN 1).own ya yn yc yb rfl (HYR.out.below (HSc.out.drewN 1).b) (by omega) hzb ?_)
        intro A9 c9 we ho9 hg9
        have HId := Lib.hid ((HIc.out.drewN 1).kept hg9 (OwnR.ne (HIc.out.drewN 1) (HSc.out.drewN 1).own.row (by decide)))
        obtain ⟨g9, rfl, hs9⟩ := (HSc.out.drewN 1).app ho9 hg9 (by omega)
        have HSd : Hid (WS w (.cells #[.bool plus, .slice sA sn sc, .slice fA fn fc, .slice (some ⟨bB, oB, none⟩) bn bc, .slice oA on oc, .slice hA hn hc, .slice gA gn gc] 44) g9 (nb + yn) c9 ((O0.take (i + 1)).foldl (bodStep (bod.map fun y => y.2.2.2) tb) H) we) := by
          show WS _ _ _ _ _ _ _
          rw [HF.out]
          unfold bodStep
          rw [HGD.out, if_pos (by rw [hyn]; exact h0), HCL.out, hyn]
          exact hs9
        clear ho9 hg9 hs9 HSc HIc cI cB x0 x1 x2 x3 x4 x5 x6 hzb
        go_wp2_with (fail)
        go_roundw
        case rel => exact ⟨i + 1, nb + yn, c9, g9, by go_num, by go_num, by omega, by omega, HSd, by have := HTN.out; show tb + 40 * bn ≤ nb + yn; omega, HId⟩
        case measure => simp [intOf]; omega
      · have t1 : decide ((0 : Int) < (yn : Int)) = false := by simp; omega
        have hy0 : yn = 0 := by omega
        have HSN : Hid (WS w (.cells #[.bool plus, .slice sA sn sc, .slice fA fn fc, .slice (some ⟨bB, oB, none⟩) bn bc, .slice oA on oc, .slice hA hn hc, .slice gA gn gc] 44) gb nb cb ((O0.take (i + 1)).foldl (bodStep (bod.map fun y => y.2.2.2) tb) H) wr) := by
          show WS _ _ _ _ _ _ _
          rw [HF.out]
          unfold bodStep
          rw [HGD.out, if_neg (by rw [hyn]; exact h0)]
          exact HS.out
        clear hy0
        go_wp2_with (fail)
        go_quiet (fail)
        go_wp2_with (fail)
        go_roundw
        case rel => exact ⟨i + 1, nb, cb, gb, by go_num, by go_num, by omega, by omega, HSN.out.drewN _, HTN, HI.out.drewN _⟩
        case measure => simp [intOf]; omega
    · have i1 : decide ((i : Int) < (on2 : Int)) = false := by simp; omega
      obtain rfl : i = on2 := by omega
      have htk : O0.take i = O0 := by rw [HON.out, List.take_length]
      rw [htk] at HS
      obtain ⟨B0, hB0⟩ : ∃ z, O0.foldl (bodStep (bod.map fun y => y.2.2.2) tb) H = z := ⟨_, rfl⟩
      have HB0 := Lib.hid hB0
      rw [hB0] at HS
      have hzb : w.heap.size + 1 ≤ wr.heap.size := block_lt HS.out.x
      have hHN := HE.out
      have hnb0 : 0 < nb ∧ tb + 40 * bn ≤ nb ∧ 100 ≤ tb := by have := HTN.out; omega
      clear htk hB0 HI hHN
      go_wp2_with (at_builtin; refine wpList_apn _ _ rfl rfl rfl (w.heap.size + 1) (some ⟨gb, 0, none⟩) nb cb _ rfl HS.out.own hA hn hc beh rfl (HR.out.h.below HS.out.b) (by omega) hzb ?_)
      intro A9 c9 we ho9 hg9
      obtain ⟨g9, rfl, hs9⟩ := HS.out.app ho9 hg9 (by omega)
      have HS9 := Lib.hid hs9
      obtain ⟨n9, hn9⟩ : ∃ z, nb + hn = z := ⟨_, rfl⟩
      rw [hn9] at HS9 ⊢
      have hn9b : 0 < n9 ∧ n9 ≤ 130000 ∧ tb + 40 * bn ≤ n9 := by omega
      clear ho9 hg9 hs9 hzb HS x0 x1 x2 x3 x4 x5 x6 hn9
      obtain ⟨x0, x1, x2, x3, x4, x5, x6⟩ := cells_7 HS9.out.x
      obtain ⟨B1, hB1⟩ : ∃ z, B0 ++ beh = z := ⟨_, rfl⟩
      have HB1 := Lib.hid hB1
      rw [hB1] at HS9
      have HWR : Hid (∀ R, sealL tb B1 (sig.map fun y => y.2.2.2) = R → writeL plus stub fill (bod.map fun y => y.2.2.2) ord beh (sig.map fun y => y.2.2.2) = R) := by
        intro R hR9
        unfold writeL bodsL
        rw [List.length_map, HLS.out.2.2.1, HOR.out, HH.out.1, HH.out.2, HB0.out, HB1.out]
        exact hR9
      clear hB1
      by_cases hgs : 0 < gn
      · have t1 : decide ((0 : Int) < (gn : Int)) = true := by simp; omega
        have hsn : ¬ sig.map (fun y => y.2.2.2) = [] := by
          intro e
          have := congrArg List.length e
          rw [List.length_map, HLS.out.2.2.2.1] at this
          simp at this
          omega
        have hB1l := HS9.out.own.len
        obtain ⟨pd, hpd⟩ : ∃ z, (8 - n9 % 8) % 8 = z := ⟨_, rfl⟩
        have hpd7 : pd ≤ 7 := by omega
        have HSL : Hid (sealL tb B1 (sig.map fun y => y.2.2.2) = putL (putL (B1 ++ List.replicate pd 0) (tb - 96) (n9 + pd) 4) (tb - 92) (tableL (sig.map fun y => y.2.2.2)).length 4 ++ tableL (sig.map fun y => y.2.2.2)) := by
          show sealL _ _ _ = _
          unfold sealL padL
          rw [if_neg hsn, hB1l, hpd, List.length_append, List.length_replicate, hB1l]
        have HWF := Lib.hid (HWR.out _ HSL.out)
        have HPD := Lib.hid hpd
        have htbl : (tableL (sig.map fun y => y.2.2.2)).length ≤ 20000 := by
          have h1 := tableL_le (sig.map fun y => y.2.2.2) 400 (fun z hz => by
            obtain ⟨y, hy, rfl⟩ := List.mem_map.1 hz
            exact HGL.out y hy)
          rw [List.length_map, HLS.out.2.2.2.1] at h1
          exact Nat.le_trans h1 (Nat.le_trans (Nat.mul_le_mul_right _ hs6) (by omega))
        obtain ⟨TB, hTB⟩ : ∃ z, tableL (sig.map fun y => y.2.2.2) = z := ⟨_, rfl⟩
        rw [hTB] at HWF htbl
        have HTB := Lib.hid hTB
        clear hTB hpd hB1l hsn HSL HWR
        go_wp2_with (fail)
        go_loopw [9] (fun vb wl => ∃ (j c' g' : Nat), vb = .slice (some ⟨g', 0, none⟩) (n9 + j) c' ∧ j ≤ pd ∧ Hid (WS w (.cells #[.bool plus, .slice sA sn sc, .slice fA fn fc, .slice bA bn bc, .slice oA on oc, .slice hA hn hc, .slice gA gn gc] 44) g' (n9 + j) c' (B1 ++ List.replicate j 0) wl)) (fun vb _ => n9 + pd - (match vb with | .slice _ l _ => l | _ => 0))
        case atStart => exact ⟨0, c9, g9, rfl, Nat.zero_le _, Lib.hid (by simpa using HS9.out)⟩
        case round =>
          obtain ⟨j, c', g', rfl, hj, HK⟩ := hrel
          obtain ⟨r, hr⟩ : ∃ r, (n9 + j) % 8 = r := ⟨_, rfl⟩
          have f1 : ((n9 : Int) + (j : Int)).tmod 8 = (r : Int) := by rw [← hr, Int.tmod_eq_emod_of_nonneg (by omega)]; omega
          have f2 : ((n9 : Int) + (j : Int)) % 8 = (r : Int) := by omega
          have hrj : r = 0 ↔ j = pd := by
            have h1 := pad_state n9 j (by have := HPD.out; omega)
            rw [HPD.out, hr] at h1
            exact Iff.of_eq h1
          have hwk : w.heap.size + 1 ≤ wr.heap.size := block_lt HK.out.x
          have hj7 : j ≤ 7 := by omega
          clear hr
          by_cases h0 : r = 0
          · have t2 : ((r : Int) != 0) = false := by simp; omega
            obtain rfl := hrj.1 h0
            clear h0 hrj x0 x1 x2 x3 x4 x5 x6
            obtain ⟨x0, x1, x2, x3, x4, x5, x6⟩ := cells_7 HK.out.x
            have CT := Lib.hid (table_any gA gn gc sig wr (HR.out.g.below HK.out.b) (by omega) (fun y hy => by have := HGL.out y hy; omega))
            rw [HTB.out] at CT
            go_wp2_with (fail)
            (with_reducible refine CT.out.mono ?_)
            clear CT
            rintro e wt ⟨tA, tn, tc, rfl, hot, hbt⟩
            have htn := hot.len
            rw [htn] at htbl
            have u1 : IntKind.u64.wrap (tn : Int) = (tn : Int) := by rw [IntKind.wrap_u64]; omega
            have u2 : IntKind.u64.wrap ((n9 : Int) + (j : Int)) = (n9 : Int) + (j : Int) := by rw [IntKind.wrap_u64]; omega
            have HKt := Lib.hid (HK.out.new hbt)
            have HT := Lib.hid (And.intro hot.rb htn)
            have C := Lib.hid (putD_any g' (n9 + j) c' _ _ ((tb : Int) - 128 + 32) ((n9 : Int) + (j : Int)) 4 (tb - 96) (n9 + j) 4 wt HKt.out.own (by omega) (by push_cast; rfl) (by decide) (by omega) (by decide) (by omega) (by omega))
            have HBT := Lib.hid hot
            have HFAR : Hid (blk tA = none ∨ blk tA ≠ some g') := .inr (fun e => by
              have h1 : wr.heap.size ≤ g' := (hot.blk_lt e).1
              have h2 : g' < wr.heap.size := (HK.out.own.blk_lt rfl).2
              omega)
            clear hot hbt htn HK x0 x1 x2 x3 x4 x5 x6
            go_wp2_with (fail)
            (with_reducible refine C.out.mono ?_)
            clear C
            rintro e wu ⟨rfl, ho9, hg9⟩
            have HTu := Lib.hid (HBT.out.kept hg9 HFAR.out)
            have HKu := Lib.hid (HKt.out.put ho9 hg9)
            clear ho9 hg9
            have C := Lib.hid (putD_any g' (n9 + j) c' _ _ ((tb : Int) - 128 + 36) (tn : Int) 4 (tb - 92) tn 4 wu HKu.out.own (by omega) rfl (by decide) (by omega) (by decide) (by omega) (by omega))
            go_wp2_with (fail)
            (with_reducible refine C.out.mono ?_)
            clear C
            rintro e wv ⟨rfl, ho9, hg9⟩
            have HTv := Lib.hid (HTu.out.kept hg9 HFAR.out)
            have HKv := Lib.hid (HKu.out.put ho9 hg9)
            have hzb : w.heap.size + 1 ≤ wv.heap.size := block_lt HKv.out.x
            clear ho9 hg9
            go_wp2_with (at_builtin; refine wpList_apn _ _ rfl rfl rfl (w.heap.size + 1) (some ⟨g', 0, none⟩) (n9 + j) c' _ rfl HKv.out.own tA tn tc TB rfl HTv.out.rb (by omega) hzb ?_)
            intro A7 c7 w7 ho7 hg7
            obtain ⟨g7, rfl, hs7⟩ := HKv.out.app ho7 hg7 (by omega)
            have HS7 := Lib.hid hs7
            clear ho7 hg7 hs7
            go_wp2_with (fail)
            go_ret
            rw [HWF.out, HT.out.2]
            exact ⟨_, _, _, rfl, HS7.out.own.lower (by omega), HS7.out.b⟩
          · have t2 : ((r : Int) != 0) = true := by simp; omega
            have hjp : j < pd := by
              have : j ≠ pd := fun e => h0 (hrj.2 e)
              omega
            clear h0 hrj
            have HQ1 : Hid ((wr.alloc (.cells #[.int .u8 0] 5)).cell? ⟨wr.heap.size, 0, none⟩ = some (bv 0)) := cells_1 (has_new wr _)
            go_wp2_with (at_builtin; refine wpList_app1 _ _ rfl rfl rfl (w.heap.size + 1) (some ⟨g', 0, none⟩) (n9 + j) c' _ rfl (HK.out.alloc _).own wr.heap.size 1 0 rfl HQ1.out (by omega) (by simp; omega) ?_)
            intro A6 c6 w6 ho6 _ hg6 _
            obtain ⟨g6, rfl, hs6'⟩ := (HK.out.alloc _).app ho6 hg6 (by omega)
            have HF : Hid (WS w (.cells #[.bool plus, .slice sA sn sc, .slice fA fn fc, .slice bA bn bc, .slice oA on oc, .slice hA hn hc, .slice gA gn gc] 44) g6 (n9 + (j + 1)) c6 (B1 ++ List.replicate (j + 1) 0) w6) := by
              show WS _ _ _ _ _ _ _
              rw [List.replicate_succ']
              exact hs6'
            clear ho6 hg6 hs6'
            go_wp2_with (fail)
            go_roundw
            case rel => exact ⟨j + 1, c6, g6, by go_num, by omega, HF⟩
            case measure => simp; omega
      · have t1 : decide ((0 : Int) < (gn : Int)) = false := by simp; omega
        have hsn : sig.map (fun y => y.2.2.2) = [] := by
          rw [List.map_eq_nil_iff]
          exact List.eq_nil_of_length_eq_zero (by have := HLS.out.2.2.2.1; omega)
        have HSN := Lib.hid (HWR.out B1 (by unfold sealL; rw [if_pos hsn]))
        clear hsn
        go_wp2_with (fail)
        go_ret
        rw [HSN.out]
        exact ⟨_, _, _, rfl, HS9.out.own.lower (by omega), HS9.out.b⟩
end Go.Proofs.YtcedojmhgmgcgaaGreatDoor

/-
  option: Write of options that have no bytes; the statements' anchor.
-/
import Derived.Test.YtokklcfdfjgbjaaDoorOpF
namespace Go.Proofs.YtokklcfdfjgbjaaDoor
open Go.RowKit Go
set_option linter.unusedVariables false
set_option maxRecDepth 100000
theorem write_no (a : Nat) (l : ByteArray) (P : Option Addr) (pn pc : Nat) (D : Option Addr) (dn dc : Nat) (w : World)
    (hl : l.size ≤ 1000000) (hpn : pn ≤ 9223372036854775807) (hno : l.data.toList.all letter = false ∨ 65535 < pn) :
    Calls Tryd.prog 12 #[.agg #[.int .u32 (a : Int), .string l, .slice P pn pc, .slice D dn dc]] w fun e w' => e = .returned (.tuple #[.slice none 0 0, .int .i64 1]) ∧ Below w.heap.size w w' := by
  have WD := Lib.hid (fun W => wide_any l W (by omega))
  have hb0 : ∀ o, Below w.heap.size w (w.alloc o) := fun o => (Below.refl _ _).alloc (Nat.le_refl _) _
  cases hall : l.data.toList.all letter with
  | false =>
    rw [wide_no hall] at WD
    have hp := pos_of_not hall
    rw [data_len] at hp
    have d1 : ((0 : Int) == 2 * (l.size : Int)) = false := beq_eq_false_iff_ne.2 (by omega)
    have d2 : ((0 : Int) != 2 * (l.size : Int)) = true := by rw [bne_iff_ne]; omega
    clear hall hno
    go_enter Tryd.func12, Tryd.ntmps12
    go_wp2_with fail
    refine calls_named fun w0 hw0 => ?_
    have hbw0 : Below w.heap.size w w0 := below_named hw0 (hb0 _)
    have k0 := heap_named hw0 (heap_alloc_new w _)
    have hs0 := hbw0.size
    clear hw0
    refine (WD.out w0).mono ?_
    rintro e w1 ⟨A1, n1, c1, rfl, hown1, hb1⟩
    obtain rfl : 0 = n1 := hown1.len
    have hbw1 := hbw0.trans (hb1.mono hs0)
    have k1 := (hb1.block _ (heap_lt k0)).trans k0
    obtain ⟨a0, a1, a2, a3⟩ := cells4 k1
    clear hb1 k0 hbw0 k1
    go_wp2
    go_ret2
    exact ⟨rfl, hbw1⟩
  | true =>
    rw [wide_yes hall] at WD
    have hwl : (widen l.data.toList).length = 2 * l.size := by rw [widen_len, data_len]
    have HW := Lib.hid hwl
    have hp : 65535 < pn := by
      rcases hno with h | h
      · rw [h] at hall; cases hall
      · exact h
    have d1 : ((2 * (l.size : Int)) == 2 * (l.size : Int)) = true := by simp
    have d2 : ((2 * (l.size : Int)) != 2 * (l.size : Int)) = false := by simp
    have d3 : decide (65535 < (pn : Int)) = true := decide_eq_true (by omega)
    clear hall hno hwl
    generalize widen l.data.toList = wl at WD HW
    go_enter Tryd.func12, Tryd.ntmps12
    go_wp2_with fail
    refine calls_named fun w0 hw0 => ?_
    have hbw0 : Below w.heap.size w w0 := below_named hw0 (hb0 _)
    have k0 := heap_named hw0 (heap_alloc_new w _)
    have hs0 := hbw0.size
    clear hw0
    refine (WD.out w0).mono ?_
    rintro e w1 ⟨A1, n1, c1, rfl, hown1, hb1⟩
    obtain rfl : 2 * l.size = n1 := HW.out.symm.trans hown1.len
    have hbw1 := hbw0.trans (hb1.mono hs0)
    have k1 := (hb1.block _ (heap_lt k0)).trans k0
    obtain ⟨a0, a1, a2, a3⟩ := cells4 k1
    clear hb1 k0 hbw0 k1
    go_wp2
    go_ret2
    exact ⟨rfl, hbw1⟩
theorem rb_new (w : World) (bs : List UInt8) (n : Nat) (t : TypeId) (mk : Nat × Nat) (cs : Array Value) (h : cs.toList = bs.map bv) (hn : bs.length = n) : RB (w.alloc (.cells cs t mk)) (some ⟨w.heap.size, 0, none⟩) n bs :=
  ⟨hn, by rw [show (w.alloc (.cells cs t mk)).heap.size = w.heap.size + 1 from by simp]; exact bs_new w bs t mk cs h⟩
theorem wQ : readQ (optB 1 [65] [7, 8] [9]) = some (1, [65], [7, 8], [9]) := readQ_optB 1 _ _ _ (by omega) (by decide) (by decide)
theorem wLen : (optB 1 [65] [7, 8] [9]).length = 13 := optB_len _ _ _ _
set_option maxHeartbeats 1600000 in
theorem works_any (w : World) (hT : Sizes w) : Calls Tryd.prog 10 #[] w fun e w' => e = .returned (.bool true) ∧ Below w.heap.size w w' := by
  have WR : Hid (∀ P D W, RB W P 2 [7, 8] → RB W D 1 [9] → Sizes W → Calls Tryd.prog 12 #[.agg #[.int .u32 1, .string ⟨#[65]⟩, .slice P 2 2, .slice D 1 1]] W (FreshE W (optB 1 [65] [7, 8] [9]))) := fun P D W h1 h2 h3 => write_yes 1 ⟨#[65]⟩ P 2 2 [7, 8] D 1 1 [9] W h3 (by omega) (by decide) h1 h2 (by omega) (by omega) (by decide)
  have RD : Hid (∀ A c W, RB W A 13 (optB 1 [65] [7, 8] [9]) → 13 ≤ c → c ≤ 9223372036854775807 → Sizes W → Calls Tryd.prog 18 #[.slice A 13 c] W (ReadPost W (optB 1 [65] [7, 8] [9]))) := fun A c W h1 h2 h3 h4 => oread_any A 13 c _ W h1 h2 h3 (by omega) h4
  have SM : Hid (∀ (P P' D D' : Option Addr) (pn' pc' dn' dc' : Nat) W, RB W P 2 [7, 8] → RB W P' pn' [7, 8] → RB W D 1 [9] → RB W D' dn' [9] → Calls Tryd.prog 15 #[.agg #[.int .u32 1, .string ⟨#[65]⟩, .slice P 2 2, .slice D 1 1], .agg #[.int .u32 1, .string ⟨#[65]⟩, .slice P' pn' pc', .slice D' dn' dc']] W fun e w' => e = .returned (.bool true) ∧ Below W.heap.size W w') := fun P P' D D' pn' pc' dn' dc' W h1 h2 h3 h4 => same_yes 1 ⟨#[65]⟩ P P' D D' 2 2 pn' pc' 1 1 dn' dc' [7, 8] [9] W h1 h2 h3 h4
  have HQ := Lib.hid wQ
  have HL := Lib.hid wLen
  generalize optB 1 [65] [7, 8] [9] = ob at WR RD HQ HL
  go_enter Tryd.func10, Tryd.ntmps10
  go_wp2_with fail
  refine calls_named fun w0 hw0 => ?_
  have hP0 : RB w0 (some ⟨w.heap.size, 0, none⟩) 2 [7, 8] := by rw [← hw0]; exact (((rb_new w [7, 8] 2 _ _ _ rfl rfl).alloc _).alloc _)
  have hD0 : RB w0 (some ⟨w.heap.size + 1, 0, none⟩) 1 [9] := by
    rw [← hw0]
    have h := rb_new (w.alloc (.cells #[.int .u8 7, .int .u8 8] 5)) [9] 1 5 (0, 0) #[.int .u8 9] rfl rfl
    rw [show (w.alloc (.cells #[.int .u8 7, .int .u8 8] 5)).heap.size = w.heap.size + 1 from by simp] at h
    exact h.alloc _
  have hbw0 : Below w.heap.size w w0 := below_named hw0 ((((Below.refl _ _).alloc (Nat.le_refl _) _).alloc (by simp) _).alloc (by simp; omega) _)
  have k0 : w0.heap[w.heap.size + 2]? = some (.cells #[.int .u32 1, .string ⟨#[65]⟩, .slice (some ⟨w.heap.size, 0, none⟩) 2 2, .slice (some ⟨w.heap.size + 1, 0, none⟩) 1 1] 25) := by
    rw [← hw0]
    have := heap_alloc_new ((w.alloc (.cells #[.int .u8 7, .int .u8 8] 5)).alloc (.cells #[.int .u8 9] 5)) (.cells #[.int .u32 1, .string ⟨#[65]⟩, .slice (some ⟨w.heap.size, 0, none⟩) 2 2, .slice (some ⟨w.heap.size + 1, 0, none⟩) 1 1] 25)
    simpa using this
  have hs0 := hbw0.size
  clear hw0
  refine (WR.out _ _ _ hP0 hD0 (hT.below' hbw0)).mono ?_
  rintro e w1 ⟨A1, n1, c1, rfl, hown1, hb1⟩
  obtain rfl : 13 = n1 := HL.out.symm.trans hown1.len
  have hbw1 := hbw0.trans (hb1.mono hs0)
  have hs1 := hbw1.size
  have k1 := (hb1.block _ (heap_lt k0)).trans k0
  have hP1 := hP0.below hb1
  have hD1 := hD0.below hb1
  have hc1 := hown1.cap
  unfold maxLen at hc1
  obtain ⟨hc1a, hc1b⟩ := hc1
  clear hb1 k0 hP0 hD0 hbw0 hs0
  go_wp2_with fail
  refine (RD.out _ _ _ hown1.rb hc1a (by omega) (hT.below' hbw1)).mono ?_
  intro e w2 hp2
  simp only [ReadPost, HQ.out] at hp2
  obtain ⟨P, pn, pc, D, dn, dc, rfl, ownP, ownD, _, hb2⟩ := hp2
  have hbw2 := hbw1.trans (hb2.mono hs1)
  have hs2 := hbw2.size
  have k2 := (hb2.block _ (heap_lt k1)).trans k1
  have hP2 := hP1.below hb2
  have hD2 := hD1.below hb2
  have hlt2 := heap_lt k2
  have e65 : strOf [65] = ⟨#[65]⟩ := rfl
  rw [e65]
  obtain ⟨a0, a1, a2, a3⟩ := cells4 k2
  clear hb2 k1 hP1 hD1 hbw1 hs1 k2 hown1 e65
  go_wp2_with fail
  refine (SM.out _ _ _ _ _ _ _ _ _ (hP2.alloc _) (ownP.rb.alloc _) (hD2.alloc _) (ownD.rb.alloc _)).mono ?_
  intro e w3 hw3
  obtain ⟨rfl, hb3⟩ := hw3
  have hbw3 := (hbw2.alloc hs2 _).trans (hb3.mono (by simp; omega))
  clear hb3
  go_wp2
  go_ret
  exact ⟨rfl, hbw3⟩
end Go.Proofs.YtokklcfdfjgbjaaDoor

/-
  octet: Put, PutBig.
-/
import Derived.Test.YtfampefflkkckaaDoorOctB1
import Derived.StillTailTactics
namespace Go.Proofs.YtfampefflkkckaaDoor
open Go.RowKit Go
set_option linter.unusedVariables false

/-- A number's byte i, the lowest one first. -/
def nb (x i : Nat) : UInt8 := UInt8.ofNat (x / 256 ^ i)
theorem nb_num (x i : Nat) : ((nb x i).toNat : Int) = (x : Int) / 2 ^ (8 * i) % 256 := by
  unfold nb
  rw [UInt8.toNat_ofNat']
  have hp : (2 : Int) ^ (8 * i) = ((256 ^ i : Nat) : Int) := by rw [Int.pow_mul]; simp
  rw [hp]
  omega
theorem run_shr8 (x j : Nat) (hj : j < 8) (w : World) : (Op.shift BinOp.shr IntKind.u64 (x : Int) IntKind.i64 (8 * (j : Int))).run Tryd.prog w = .ok (.int .u64 ((x : Int) / 2 ^ (8 * j))) w := by
  unfold Op.shift
  rw [if_neg (by omega)]
  have hm : min (8 * (j : Int)).toNat IntKind.u64.bits = 8 * j := by
    show min (8 * (j : Int)).toNat 64 = 8 * j
    omega
  simp only [hm]
  rw [Int.fdiv_eq_ediv_of_nonneg _ (Int.pow_nonneg (by decide))]
  rfl
set_option maxRecDepth 100000 in
theorem put_inner (fn : Nat) (caps : Array Value) (pl : Nat → Nat) (T : Nat → List UInt8) (A : Option Addr) (n c : Nat) (bs : List UInt8) (x k : Nat) (w : World) (hR : RB w A n bs) (hs : Sizes w) (hn : n ≤ 1000000000) (hk : isSz k = true)
    (hx : x < 18446744073709551616) (hpl : ∀ i, i < k → pl i < k) (hT0 : T 0 = List.replicate k 0) (hTl : ∀ j, (T j).length = k) (hTs : ∀ j, j < k → (T j).set (pl j) (nb x j) = T (j + 1))
    (hC : ∀ (args : Array Value) (w : World), (callFunc fn args).run Tryd.prog w = .ok (.enter fn args) w)
    (hF : Hid (∀ W, Below w.heap.size w W → ∀ i, i < k → Calls Tryd.prog fn (#[.int .i64 (i : Nat)] ++ caps) W fun e w' => e = .returned (.int .i64 (pl i : Nat)) ∧ w' = W)) :
    Calls Tryd.prog 49 #[.slice A n c, .int .u64 x, .int .i64 k, .func (Fn.func fn) #[] caps] w (Fresh w (bs ++ T k)) := by
  have S := Lib.hid (isSize_any k w hs)
  rw [hk] at S
  have hk8 : k ≤ 8 := by simp [isSz] at hk; omega
  have HT0 := Lib.hid hT0
  have HTl := Lib.hid hTl
  have HTs := Lib.hid hTs
  have HL := Lib.hid hR.1
  clear hk hT0 hTl hTs
  go_enter Tryd.func49, Tryd.ntmps49
  go_wp2_with fail
  refine S.out.mono ?_
  rintro e w' ⟨rfl, rfl⟩
  go_wp2_with (refine wpList_mk (.tmp 17) (.tmp 17) rfl rfl _ _ _ _ (n + k) rfl rfl (by omega) (by omega) (by omega) ?_)
  intro w1 hown1 hg1
  have hb1 : Below w.heap.size w w1 := (Below.refl _ _).grown hg1 (Nat.le_refl _) (by intro g hg; cases hg)
  go_wp2_with (refine wpList_cpy (.tmp 19) (.tmp 20) rfl rfl w.heap.size w.heap.size 0 (n + k) (n + k) (n + k) (n + k) _ rfl hown1 w.heap.size _ _ _ bs rfl hR.1 (hR.2.below hb1) (by omega) ?_)
  intro w2 hown2 hg2
  have hb2 : Below w.heap.size w w2 := hb1.grown hg2 hb1.size (fun g hg => by injection hg with hg; omega)
  have hown3 : OwnB w2 w.heap.size (some ⟨w.heap.size, 0, none⟩) (n + k) (n + k) (bs ++ T 0) := by
    have e : splice (List.replicate (n + k) (0 : UInt8)) 0 (bs.take (n + k)) = bs ++ T 0 := by
      rw [HT0.out, List.take_of_length_le (by rw [HL.out]; omega)]
      unfold splice
      simp [HL.out]
    rwa [e] at hown2
  clear hown2 hown1
  go_wp2
  go_loopw [23] (fun i wr => ∃ j : Nat, j ≤ k ∧ i = .int .i64 j ∧ OwnB wr w.heap.size (some ⟨w.heap.size, 0, none⟩) (n + k) (n + k) (bs ++ T j) ∧ Below w.heap.size w wr) (fun i _ => k - (intOf i).toNat)
  case atStart => exact ⟨0, Nat.zero_le _, rfl, hown3, hb2⟩
  case round =>
    obtain ⟨j, hj, rfl, hown, hbl⟩ := hrel
    clear hown3 hb2 hb1 hg1 hg2
    by_cases hlt : j < k
    · have hp := hpl j hlt
      have CF := Lib.hid (hF.out wr.drew hbl.drew j hlt)
      have hq : ∃ q, (bs ++ T j)[n + pl j]? = some q := by
        have : n + pl j < (bs ++ T j).length := by rw [List.length_append, HL.out, HTl.out]; omega
        exact ⟨_, List.getElem?_eq_getElem this⟩
      obtain ⟨q, hq⟩ := hq
      have hcell := hown.cellAt (n + pl j) q hq
      have hfree := hown.free (n + pl j)
      have hnb : IntKind.u8.wrap ((x : Int) / 2 ^ (8 * j)) = ((nb x j).toNat : Int) := by rw [IntKind.wrap_u8', nb_num x j]
      have hw1 : IntKind.i64.wrap (8 * (j : Int)) = 8 * (j : Int) := IntWalk.i64_in _ (by omega)
      have hw2 : IntKind.i64.wrap ((n : Int) + ((pl j : Nat) : Int)) = (n : Int) + ((pl j : Nat) : Int) := IntWalk.i64_in _ (by omega)
      have hsh := run_shr8 x j (by omega)
      have hi1 : 0 ≤ (n : Int) + ((pl j : Nat) : Int) := by omega
      have hi2 : (n : Int) + ((pl j : Nat) : Int) < ((n + k : Nat) : Int) := by omega
      have hi3 : ((n : Int) + ((pl j : Nat) : Int)).toNat = n + pl j := by omega
      have HST : Hid (OwnB (wr.setCell ⟨w.heap.size, n + pl j, none⟩ (.int .u8 ((nb x j).toNat : Int))) w.heap.size (some ⟨w.heap.size, 0, none⟩) (n + k) (n + k) (bs ++ T (j + 1))) := by
        have := hown.stored (n + pl j) (nb x j)
        rwa [List.set_append_right _ _ (by rw [HL.out]; omega), HL.out, show n + pl j - n = pl j by omega, HTs.out j hlt] at this
      clear hq hown
      go_wp2
      refine wp_region_still_tail 13 (by kernel_rfl) (by kernel_rfl) ?_
      simp only [List.take_succ_cons, List.take_zero, List.drop_succ_cons, List.drop_zero]
      iterate 5 still_step
      still_call CF.out
      iterate 7 still_step
      refine wpStill_nil ?_
      change wpList _ _ _ _ _ wr.drew
      go_wp2
      go_roundw
      case rel => exact ⟨j + 1, by omega, by go_num, by rw [← nb_num x j]; exact HST.out, (hbl.setCell (Nat.le_refl _) _).drew⟩
      case measure => simp [intOf]; omega
    · obtain rfl : j = k := by omega
      go_wp2
      go_ret
      exact ⟨_, _, _, rfl, hown, hbl⟩
set_option maxRecDepth 100000 in
theorem put_no (F : Value) (A : Option Addr) (n c : Nat) (bs : List UInt8) (x k : Int) (w : World) (hR : RB w A n bs) (hs : Sizes w) (hn : n ≤ 1000000000) (hk : isSz k = false) :
    Calls Tryd.prog 49 #[.slice A n c, .int .u64 x, .int .i64 k, F] w (Fresh w bs) := by
  have S := Lib.hid (isSize_any k w hs)
  rw [hk] at S
  have HL := Lib.hid hR.1
  clear hk
  go_enter Tryd.func49, Tryd.ntmps49
  go_wp2_with fail
  refine S.out.mono ?_
  rintro e w' ⟨rfl, rfl⟩
  go_wp2_with (refine wpList_mk (.tmp 17) (.tmp 17) rfl rfl _ _ _ _ n rfl rfl (by omega) (by omega) (by omega) ?_)
  intro w1 hown1 hg1
  have hb1 : Below w.heap.size w w1 := (Below.refl _ _).grown hg1 (Nat.le_refl _) (by intro g hg; cases hg)
  go_wp2_with (refine wpList_cpy (.tmp 19) (.tmp 20) rfl rfl w.heap.size w.heap.size 0 n n n n _ rfl hown1 w.heap.size _ _ _ bs rfl hR.1 (hR.2.below hb1) (by omega) ?_)
  intro w2 hown2 hg2
  have hb2 : Below w.heap.size w w2 := hb1.grown hg2 hb1.size (fun g hg => by injection hg with hg; omega)
  have hown3 : OwnB w2 w.heap.size (some ⟨w.heap.size, 0, none⟩) n n bs := by
    rwa [List.take_of_length_le (by rw [HL.out]; omega), splice_zero _ _ (by rw [HL.out, List.length_replicate])] at hown2
  clear hown2 hown1
  go_wp2
  refine wp_loop_rounds 1 ?_
  rw [rounds_succ]
  go_wp2
  go_ret
  exact ⟨_, _, _, rfl, hown3, hb2⟩

/-- k bytes of a number, the lowest one first. -/
def leB (x k : Nat) : List UInt8 := (List.range k).map (nb x)
theorem leB_len (x k : Nat) : (leB x k).length = k := by simp [leB]
theorem leB_get (x k i : Nat) (h : i < k) : (leB x k)[i]? = some (nb x i) := by
  unfold leB
  rw [List.getElem?_map, List.getElem?_range h]; rfl
theorem put_ok (A : Option Addr) (n c : Nat) (bs : List UInt8) (x k : Nat) (w : World) (hR : RB w A n bs) (hs : Sizes w) (hn : n ≤ 1000000000) (hk : isSz k = true) (hx : x < 18446744073709551616) :
    Calls Tryd.prog 41 #[.slice A n c, .int .u64 x, .int .i64 k] w (Fresh w (bs ++ leB x k)) := by
  have P := put_inner 45 #[] (fun i => i) (fun j => (leB x k).take j ++ List.replicate (k - j) 0) A n c bs x k w hR hs hn hk hx (fun i h => h) (by simp) (fun j => by
      rw [List.length_append, List.length_take, leB_len, List.length_replicate]; omega) (fun j hj => set_step _ 0 _ k j (leB_len x k) hj (leB_get x k j hj)) (fun _ _ => by kernel_rfl) (fun W _ i _ => (lowest_any i W).mono fun _ _ h => ⟨h.1, h.2.symm⟩)
  simp only [Nat.sub_self, List.replicate_zero, List.append_nil] at P
  rw [List.take_of_length_le (by rw [leB_len]; omega)] at P
  have H := Lib.hid P
  clear P
  go_enter Tryd.func41, Tryd.ntmps41
  go_wp2_with fail
  refine H.out.mono ?_
  rintro e w' ⟨A1, n1, c1, rfl, hown, hb⟩
  go_wp2
  go_ret
  exact ⟨_, _, _, rfl, hown, hb⟩
theorem put_bad (A : Option Addr) (n c : Nat) (bs : List UInt8) (x k : Int) (w : World) (hR : RB w A n bs) (hs : Sizes w) (hn : n ≤ 1000000000) (hk : isSz k = false) :
    Calls Tryd.prog 41 #[.slice A n c, .int .u64 x, .int .i64 k] w (Fresh w bs) := by
  have H := Lib.hid (put_no (.func (Fn.func 45) #[] #[]) A n c bs x k w hR hs hn hk)
  clear hk
  go_enter Tryd.func41, Tryd.ntmps41
  go_wp2_with fail
  refine H.out.mono ?_
  rintro e w' ⟨A1, n1, c1, rfl, hown, hb⟩
  go_wp2
  go_ret
  exact ⟨_, _, _, rfl, hown, hb⟩
end Go.Proofs.YtfampefflkkckaaDoor

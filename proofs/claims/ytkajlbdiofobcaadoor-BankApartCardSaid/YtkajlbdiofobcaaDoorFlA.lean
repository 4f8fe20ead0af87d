/-
  flash: what a flash in memory is; fill, New, and what reads it.
-/
import Derived.Test.YtkajlbdiofobcaaDoorCpy
import Derived.Test.YtkajlbdiofobcaaDoorSg
import Derived.Test.YtkajlbdiofobcaaDoorMkw
namespace Go.Proofs.YtkajlbdiofobcaaDoor
open Go.RowKit Go
set_option linter.unusedVariables false
set_option linter.unusedSimpArgs false
set_option maxRecDepth 100000
/-- A flash. -/
structure FS where
  n : Nat
  s : Nat
  bs : List UInt8
  off : Bool
  left : Nat
  part : Nat
  wr : Nat
def FS.vals (S : FS) (a c : Nat) : Array Value := #[.int .i64 (S.s : Int), .slice (some ⟨a, 0, none⟩) (S.n * S.s) c, .bool S.off, .int .i64 (S.left : Int), .int .i64 (S.part : Int), .int .i64 (S.wr : Int)]
/-- The flash S lies in block g, its bytes in block a. -/
structure FL (w : World) (base g a : Nat) (c : Nat) (S : FS) : Prop where
  st : w.heap[g]? = some (.cells #[.int .i64 (S.s : Int), .slice (some ⟨a, 0, none⟩) (S.n * S.s) c, .bool S.off, .int .i64 (S.left : Int), .int .i64 (S.part : Int), .int .i64 (S.wr : Int)] 78)
  own : OwnB w base (some ⟨a, 0, none⟩) (S.n * S.s) c S.bs
  gb : base ≤ g
  ne : a ≠ g
  n1 : 1 ≤ S.n
  n2 : S.n ≤ 64
  s1 : 16 ≤ S.s
  s2 : S.s ≤ 65536
  lb : S.left < 9223372036854775808
/-- All but the blocks g and a is as it was. -/
structure Far (g a : Nat) (w w' : World) : Prop where
  os : w'.os = w.os
  tape : w'.tape = w.tape
  output : w'.output = w.output
  size : w.heap.size ≤ w'.heap.size
  block : ∀ k, k < w.heap.size → k ≠ g → k ≠ a → w'.heap[k]? = w.heap[k]?
section
variable {w w' v : World} {g a base c : Nat} {S : FS}
theorem Far.refl (g a : Nat) (w : World) : Far g a w w := ⟨rfl, rfl, rfl, Nat.le_refl _, fun _ _ _ _ => rfl⟩
theorem Far.trans (h : Far g a w w') (k : Far g a w' v) : Far g a w v :=
  ⟨k.os.trans h.os, k.tape.trans h.tape, k.output.trans h.output, Nat.le_trans h.size k.size, fun i hi h1 h2 => (k.block i (Nat.lt_of_lt_of_le hi h.size) h1 h2).trans (h.block i hi h1 h2)⟩
theorem Far.of_below (h : Below w.heap.size w w') : Far g a w w' := ⟨h.os, h.tape, h.output, h.size, fun k hk _ _ => h.block k hk⟩
theorem Far.of_g (h : w.grownBy w' (some g)) : Far g a w w' := ⟨h.os, h.tape, h.output, h.size, fun k hk h1 _ => h.block k hk (fun e => h1 (Option.some.inj e))⟩
theorem Far.of_a (h : w.grownBy w' (some a)) : Far g a w w' := ⟨h.os, h.tape, h.output, h.size, fun k hk _ h1 => h.block k hk (fun e => h1 (Option.some.inj e))⟩
theorem Far.drew (h : Far g a w w') : Far g a w w'.drew := ⟨h.os, h.tape, h.output, h.size, h.block⟩
theorem Far.drewN (h : Far g a w w') (k : Nat) : Far g a w (w'.drewN k) := ⟨h.os, h.tape, h.output, h.size, h.block⟩
theorem Far.alloc (h : Far g a w w') (o : Obj) : Far g a w (w'.alloc o) := h.trans (.of_below ((Below.refl _ _).alloc (Nat.le_refl _) o))
theorem Far.setg (h : Far g a w w') (j : Nat) (u : Value) : Far g a w (w'.setCell ⟨g, j, none⟩ u) := h.trans (.of_g (grown_one _ _ _ _))
theorem Far.seta (h : Far g a w w') (j : Nat) (u : Value) : Far g a w (w'.setCell ⟨a, j, none⟩ u) := h.trans (.of_a (grown_one _ _ _ _))
theorem Far.below (h : Far g a w w') {B : Nat} (hg : B ≤ g) (ha : B ≤ a) (hB : B ≤ w.heap.size) : Below B w w' :=
  ⟨h.os, h.tape, h.output, h.size, fun k hk => h.block k (by omega) (by omega) (by omega)⟩
theorem Far.has (h : Far g a w w') {k : Nat} {o : Obj} (hk : w.heap[k]? = some o) (h1 : k ≠ g) (h2 : k ≠ a) : w'.heap[k]? = some o := (h.block k (block_lt hk) h1 h2).trans hk
theorem FL.ab (h : FL w base g a c S) : base ≤ a ∧ a < w.heap.size := h.own.blk_lt rfl
theorem FL.alt (h : FL w base g a c S) : g < w.heap.size := block_lt h.st
theorem FL.len (h : FL w base g a c S) : S.bs.length = S.n * S.s := h.own.len
theorem FL.big (h : FL w base g a c S) : S.n * S.s ≤ 4194304 := by
  have h1 := Nat.mul_le_mul h.n2 h.s2
  omega
theorem FL.pos (h : FL w base g a c S) : 16 ≤ S.n * S.s := by
  have h1 := Nat.mul_le_mul h.n1 h.s1
  omega
theorem FL.below (h : FL w base g a c S) (hb : Below w.heap.size w w') : FL w' base g a c S := ⟨has_below h.st hb, h.own.below hb (Nat.le_refl _), h.gb, h.ne, h.n1, h.n2, h.s1, h.s2, h.lb⟩
theorem FL.alloc (h : FL w base g a c S) (o : Obj) : FL (w.alloc o) base g a c S := h.below ((Below.refl _ _).alloc (Nat.le_refl _) o)
theorem FL.drewN (h : FL w base g a c S) (k : Nat) : FL (w.drewN k) base g a c S := ⟨h.st, h.own.drewN k, h.gb, h.ne, h.n1, h.n2, h.s1, h.s2, h.lb⟩
theorem FL.drew (h : FL w base g a c S) : FL w.drew base g a c S := ⟨h.st, h.own.drew, h.gb, h.ne, h.n1, h.n2, h.s1, h.s2, h.lb⟩
/-- The struct is written over, in cells that the call lays. -/
theorem FL.next (h : FL w base g a c S) {S' : FS} (hn : S'.n = S.n) (hs : S'.s = S.s) (hb : S'.bs = S.bs) (hl : S'.left < 9223372036854775808) (hg : w.grownBy w' (some g))
    (hst : w'.heap[g]? = some (.cells #[.int .i64 (S.s : Int), .slice (some ⟨a, 0, none⟩) (S.n * S.s) c, .bool S'.off, .int .i64 (S'.left : Int), .int .i64 (S'.part : Int), .int .i64 (S'.wr : Int)] 78)) : FL w' base g a c S' := by
  refine ⟨by rw [hn, hs]; exact hst, ?_, h.gb, h.ne, by rw [hn]; exact h.n1, by rw [hn]; exact h.n2, by rw [hs]; exact h.s1, by rw [hs]; exact h.s2, hl⟩
  rw [hn, hs, hb]
  exact h.own.kept hg (.inr (by intro e; exact h.ne (Option.some.inj e)))
/-- The bytes are written over. -/
theorem FL.over (h : FL w base g a c S) {bs : List UInt8} (hg : w.grownBy w' (some a)) (ho : OwnB w' base (some ⟨a, 0, none⟩) (S.n * S.s) c bs) : FL w' base g a c { S with bs := bs } :=
  ⟨(hg.block g h.alt (fun e => h.ne (Option.some.inj e).symm)).trans h.st, ho, h.gb, h.ne, h.n1, h.n2, h.s1, h.s2, h.lb⟩
theorem FL.setOff (h : FL w base g a c S) (b : Bool) : FL (w.setCell ⟨g, 2, none⟩ (.bool b)) base g a c { S with off := b } := by
  refine h.next rfl rfl rfl h.lb (grown_one _ _ _ _) ?_
  have := heap_set_at _ g 2 _ _ _ (.bool b) h.st
  simpa only [List.setIfInBounds_toArray, List.set_cons_zero, List.set_cons_succ] using this
theorem FL.setLeft (h : FL w base g a c S) (l : Nat) (hl : l < 9223372036854775808) : FL (w.setCell ⟨g, 3, none⟩ (.int .i64 (l : Int))) base g a c { S with left := l } := by
  refine h.next rfl rfl rfl hl (grown_one _ _ _ _) ?_
  have := heap_set_at _ g 3 _ _ _ (.int .i64 (l : Int)) h.st
  simpa only [List.setIfInBounds_toArray, List.set_cons_zero, List.set_cons_succ] using this
theorem FL.setPart (h : FL w base g a c S) (l : Nat) : FL (w.setCell ⟨g, 4, none⟩ (.int .i64 (l : Int))) base g a c { S with part := l } := by
  refine h.next rfl rfl rfl h.lb (grown_one _ _ _ _) ?_
  have := heap_set_at _ g 4 _ _ _ (.int .i64 (l : Int)) h.st
  simpa only [List.setIfInBounds_toArray, List.set_cons_zero, List.set_cons_succ] using this
theorem FL.setWr (h : FL w base g a c S) (l : Nat) : FL (w.setCell ⟨g, 5, none⟩ (.int .i64 (l : Int))) base g a c { S with wr := l } := by
  refine h.next rfl rfl rfl h.lb (grown_one _ _ _ _) ?_
  have := heap_set_at _ g 5 _ _ _ (.int .i64 (l : Int)) h.st
  simpa only [List.setIfInBounds_toArray, List.set_cons_zero, List.set_cons_succ] using this
end
theorem splice_set (bs : List UInt8) (off k n : Nat) (h : off + n ≤ bs.length) (hk : k < n) (x : UInt8) : (splice bs off (List.replicate k x)).set (off + k) x = splice bs off (List.replicate (k + 1) x) := by
  apply List.ext_getElem?
  intro i
  rw [List.getElem?_set, splice_get _ _ _ (by simp; omega), splice_get _ _ _ (by simp; omega)]
  have hl : (splice bs off (List.replicate k x)).length = bs.length := by
    unfold splice; simp; omega
  rw [hl]
  simp only [List.length_replicate, List.getElem?_replicate]
  by_cases h1 : off + k = i
  · subst h1
    rw [if_pos rfl, if_pos (by omega), if_pos (by omega), if_pos (by omega)]
  · rw [if_neg h1]
    by_cases h2 : off ≤ i ∧ i < off + k
    · rw [if_pos h2, if_pos (by omega), if_pos (by omega), if_pos (by omega)]
    · rw [if_neg h2, if_neg (by omega)]
theorem splice_zero0 (bs : List UInt8) (off : Nat) (x : UInt8) : splice bs off (List.replicate 0 x) = bs := by unfold splice; simp
theorem fill_any (g off n c N C base : Nat) (bs : List UInt8) (w : World) (h : OwnB w base (some ⟨g, 0, none⟩) N C bs) (hn : off + n ≤ N) (hN : N ≤ 10000000) :
    Calls Tryd.prog 41 #[.slice (some ⟨g, off, none⟩) n c] w fun e w' => e = .returned (.tuple #[]) ∧ OwnB w' base (some ⟨g, 0, none⟩) N C (splice bs off (List.replicate n 255)) ∧ w.grownBy w' (some g) := by
  have H := Lib.hid h
  have hl : bs.length = N := h.len
  clear h
  go_enter Tryd.func41, Tryd.ntmps41
  go_wp2
  go_loopw [5] (fun i wl => ∃ (j : Nat), i = .int .i64 (j : Int) ∧ j ≤ n ∧ Hid (OwnB wl base (some ⟨g, 0, none⟩) N C (splice bs off (List.replicate j 255)) ∧ w.grownBy wl (some g))) (fun i _ => n - (intOf i).toNat)
  case atStart => exact ⟨0, rfl, Nat.zero_le _, by rw [splice_zero0]; exact H.out, World.grownBy.refl _ _⟩
  case round =>
    obtain ⟨j, rfl, hj, HK⟩ := hrel
    by_cases hlt : j < n
    · obtain ⟨ho, hg⟩ := HK.out
      have hlen : (splice bs off (List.replicate j (255 : UInt8))).length = N := ho.len
      obtain ⟨q, hq⟩ : ∃ q, (splice bs off (List.replicate j (255 : UInt8)))[off + j]? = some q := ⟨_, List.getElem?_eq_getElem (by omega)⟩
      have c1 := ho.cellAt (off + j) q hq
      have f1 := ho.free (off + j)
      have HN : Hid (OwnB (wr.setCell ⟨g, off + j, none⟩ (.int .u8 255)) base (some ⟨g, 0, none⟩) N C (splice bs off (List.replicate (j + 1) 255)) ∧ w.grownBy (wr.setCell ⟨g, off + j, none⟩ (.int .u8 255)) (some g)) :=
        ⟨by rw [← splice_set bs off j n (by omega) hlt]; exact ho.stored (off + j) 255, grown_tr hg (grown_one _ _ _ _)⟩
      clear ho hg HK H
      go_wp2
      go_roundw
      case rel => exact ⟨j + 1, by go_num, by omega, HN.out⟩
      case measure => simp [intOf]; omega
    · obtain rfl : j = n := by omega
      clear H
      go_wp2
      go_end0
      exact ⟨rfl, HK.out⟩
/-- A flash that was just made. -/
def newS (N s : Nat) : FS := ⟨N, s, List.replicate (N * s) 255, false, 0, 0, 0⟩
set_option maxHeartbeats 1000000 in
theorem fnew_any (N s : Nat) (h1 : 1 ≤ N) (h2 : N ≤ 64) (h3 : 16 ≤ s) (h4 : s ≤ 65536) (w : World) :
    Calls Tryd.prog 22 #[.int .i64 (N : Int), .int .i64 (s : Int)] w fun e w' => ∃ g a c, e = .returned (.tuple #[.pointer (some ⟨g, 0, none⟩), .int .i64 0]) ∧ FL w' w.heap.size g a c (newS N s) ∧ Below w.heap.size w w' := by
  have hb := Nat.mul_le_mul h2 h4
  have e1 : IntKind.i64.wrap ((N : Int) * (s : Int)) = ((N * s : Nat) : Int) := by
    rw [← Int.natCast_mul, IntKind.wrap_i64]; omega
  have e2 : IntKind.i64.wrap (((N * s : Nat)) : Int) = ((N * s : Nat) : Int) := by
    rw [IntKind.wrap_i64]; omega
  obtain ⟨M, hM⟩ : ∃ M, N * s = M := ⟨_, rfl⟩
  rw [hM] at e1 e2 hb
  have HM := Lib.hid hM
  clear hM
  go_enter Tryd.func22, Tryd.ntmps22
  go_wp2_with (refine wpList_mkw _ _ rfl (by rfl) _ _ M rfl rfl (by omega) ?_)
  intro w1 hmk hg1
  have hb1 : Below w.heap.size w w1 := (Below.refl _ _).grown hg1 (Nat.le_refl _) (by intro g hg; cases hg)
  have HMK := Lib.hid hmk
  have HB1 := Lib.hid hb1
  clear hmk hg1 hb1
  go_wp2_with fail
  refine calls_nm fun W hW => ?_
  have kE : Hid (W.heap[w1.heap.size]? = some (.cells #[.int .i64 (s : Int), .slice (some ⟨w.heap.size, 0, none⟩) M M, .bool false, .int .i64 0, .int .i64 0, .int .i64 0] 78)) := by rw [← hW]; exact has_new _ _
  have hbW : Hid (Below w.heap.size w W) := by rw [← hW]; exact kp_alloc HB1.out _
  have hoW : OwnB W w.heap.size (some ⟨w.heap.size, 0, none⟩) M M (List.replicate M 0) := by rw [← hW]; exact HMK.out.alloc _
  have hlt := HMK.out.blk_lt (k := w.heap.size) rfl
  clear hW HMK HB1
  refine (fill_any w.heap.size 0 M M M M w.heap.size _ W hoW (by omega) (by omega)).mono ?_
  clear hoW
  rintro e w2 ⟨rfl, ho2, hg2⟩
  rw [splice_zero _ _ (by simp)] at ho2
  have hst := (hg2.block _ (block_lt kE.out) (by intro e; have := Option.some.inj e; omega)).trans kE.out
  have HF : Hid (FL w2 w.heap.size w1.heap.size w.heap.size M (newS N s) ∧ Below w.heap.size w w2) :=
    ⟨⟨by show _ = some (Obj.cells #[_, .slice _ (N * s) _, _, _, _, _] _); rw [HM.out]; exact hst, by show OwnB _ _ _ (N * s) _ (List.replicate (N * s) 255); rw [HM.out]; exact ho2, by show w.heap.size ≤ w1.heap.size; omega, by omega, h1, h2, h3, h4, (by show (0 : Nat) < _; omega)⟩, hbW.out.grown hg2 hbW.out.size (fun g hg => by rw [← Option.some.inj hg]; exact Nat.le_refl _)⟩
  clear ho2 hg2 hst kE hbW
  go_wp2
  go_ret2
  exact ⟨_, _, _, rfl, HF.out⟩
/-! ### No flash -/
theorem fsectors_nil (w : World) : Calls Tryd.prog 31 #[.pointer none] w fun e w' => e = .returned (.int .i64 0) ∧ w' = w := by
  go_enter Tryd.func31, Tryd.ntmps31
  go_wp2
  go_ret
  exact ⟨rfl, rfl⟩
theorem fsize_nil (w : World) : Calls Tryd.prog 32 #[.pointer none] w fun e w' => e = .returned (.int .i64 0) ∧ w' = w := by
  go_enter Tryd.func32, Tryd.ntmps32
  go_wp2
  go_ret
  exact ⟨rfl, rfl⟩
theorem fimage_nil (w : World) : Calls Tryd.prog 27 #[.pointer none] w fun e w' => e = .returned (.slice none 0 0) ∧ w' = w := by
  go_enter Tryd.func27, Tryd.ntmps27
  go_wp2
  go_ret
  exact ⟨rfl, rfl⟩
theorem fdead_nil (w : World) : Calls Tryd.prog 29 #[.pointer none] w fun e w' => e = .returned (.bool false) ∧ w' = w := by
  go_enter Tryd.func29, Tryd.ntmps29
  go_wp2
  go_ret
  exact ⟨rfl, rfl⟩
theorem fready_nil (w : World) : Calls Tryd.prog 36 #[.pointer none] w fun e w' => e = .returned (.int .i64 2) ∧ w' = w := by
  go_enter Tryd.func36, Tryd.ntmps36
  go_wp2
  go_ret
  exact ⟨rfl, rfl⟩
theorem fon_nil (w : World) : Calls Tryd.prog 19 #[.pointer none] w fun e w' => e = .returned (.int .i64 2) ∧ w' = w := by
  go_enter Tryd.func19, Tryd.ntmps19
  go_wp2
  go_ret
  exact ⟨rfl, rfl⟩
theorem fread_nil (at_ n : Int) (w : World) : Calls Tryd.prog 44 #[.pointer none, .int .i64 at_, .int .i64 n] w fun e w' => e = .returned (.tuple #[.slice none 0 0, .int .i64 2]) ∧ w' = w := by
  go_enter Tryd.func44, Tryd.ntmps44
  go_wp2_with fail
  refine (fready_nil _).mono ?_
  rintro e w1 ⟨rfl, rfl⟩
  go_wp2
  go_ret2
  exact ⟨rfl, rfl⟩
theorem farm_nil (n p : Int) (w : World) : Calls Tryd.prog 16 #[.pointer none, .int .i64 n, .int .i64 p] w fun e w' => e = .returned (.int .i64 2) ∧ w' = w := by
  go_enter Tryd.func16, Tryd.ntmps16
  go_wp2_with fail
  refine (fready_nil _).mono ?_
  rintro e w1 ⟨rfl, rfl⟩
  go_wp2
  go_ret
  exact ⟨rfl, rfl⟩
theorem ferase_nil (k : Int) (w : World) : Calls Tryd.prog 42 #[.pointer none, .int .i64 k] w fun e w' => e = .returned (.int .i64 2) ∧ Below w.heap.size w w' := by
  go_enter Tryd.func42, Tryd.ntmps42
  go_wp2_with fail
  refine (fready_nil _).mono ?_
  rintro e w1 ⟨rfl, rfl⟩
  go_wp2
  go_ret
  exact ⟨rfl, kp_alloc (Below.refl _ _) _⟩
theorem fprogram_nil (k : Int) (A : Option Addr) (n c : Nat) (w : World) : Calls Tryd.prog 34 #[.pointer none, .int .i64 k, .slice A n c] w fun e w' => e = .returned (.int .i64 2) ∧ Below w.heap.size w w' := by
  go_enter Tryd.func34, Tryd.ntmps34
  go_wp2_with fail
  refine (fready_nil _).mono ?_
  rintro e w1 ⟨rfl, rfl⟩
  go_wp2
  go_ret
  exact ⟨rfl, kp_alloc (kp_alloc (Below.refl _ _) _) _⟩
end Go.Proofs.YtkajlbdiofobcaaDoor

/-
  option: what is written is read; whether two options are the same.
-/
import Derived.Test.YtokklcfdfjgbjaaDoorOpE
import Derived.Test.YtokklcfdfjgbjaaDoorRef
namespace Go.Proofs.YtokklcfdfjgbjaaDoor
open Go.RowKit Go
set_option linter.unusedVariables false
set_option maxRecDepth 100000
theorem scan_widen : ∀ (l r : List UInt8), l.all letter = true → scan (widen l ++ 0 :: 0 :: r) = some (widen l)
  | [], r, _ => by
    show scan (0 :: 0 :: r) = some []
    unfold scan
    rw [if_pos ⟨rfl, rfl⟩]
  | p :: l, r, h => by
    have hp : letter p = true := by simp at h; exact h.1
    have hl : l.all letter = true := by simp at h; simpa using h.2
    have e : widen (p :: l) = p :: 0 :: widen l := rfl
    rw [e]
    show scan (p :: 0 :: (widen l ++ 0 :: 0 :: r)) = _
    have h1 : 1 ≤ p.toNat := by unfold letter at hp; have := of_decide_eq_true hp; exact this.1
    conv => lhs; unfold scan
    rw [if_neg (by omega), scan_widen l r hl]
    rfl
theorem leN_leB4 (a : Nat) (ha : a < 4294967296) : leN (leB a 4) = a := by
  have h : ∀ i, (nb a i).toNat = a / 256 ^ i % 256 := fun i => by unfold nb; simp
  show leN [nb a 0, nb a 1, nb a 2, nb a 3] = a
  simp only [leN, h]
  simp
  omega
theorem leN_leB2 (a : Nat) (ha : a < 65536) : leN (leB a 2) = a := by
  have h : ∀ i, (nb a i).toNat = a / 256 ^ i % 256 := fun i => by unfold nb; simp
  show leN [nb a 0, nb a 1] = a
  simp only [leN, h]
  simp
  omega
theorem optB_eq (a : Nat) (l pb db : List UInt8) : optB a l pb db = nb a 0 :: nb a 1 :: nb a 2 :: nb a 3 :: nb pb.length 0 :: nb pb.length 1 :: (widen l ++ 0 :: 0 :: (pb ++ db)) := by
  unfold optB
  have e4 : leB a 4 = [nb a 0, nb a 1, nb a 2, nb a 3] := rfl
  have e2 : leB pb.length 2 = [nb pb.length 0, nb pb.length 1] := rfl
  rw [e4, e2]
  simp
theorem optB_len (a : Nat) (l pb db : List UInt8) : (optB a l pb db).length = 8 + 2 * l.length + pb.length + db.length := by
  rw [optB_eq]
  simp [widen_len]
  omega
theorem readQ_optB (a : Nat) (l pb db : List UInt8) (ha : a < 4294967296) (hl : l.all letter = true) (hp : pb.length < 65536) : readQ (optB a l pb db) = some (a, l, pb, db) := by
  have hlen := optB_len a l pb db
  have hd6 : (optB a l pb db).drop 6 = widen l ++ 0 :: 0 :: (pb ++ db) := by rw [optB_eq]; rfl
  have h4 : cut (optB a l pb db) 0 4 = leB a 4 := by rw [optB_eq]; rfl
  have h2 : cut (optB a l pb db) 4 2 = leB pb.length 2 := by rw [optB_eq]; rfl
  have hdk : (optB a l pb db).drop (6 + (widen l).length + 2) = pb ++ db := by
    rw [show 6 + (widen l).length + 2 = 6 + ((widen l).length + 2) by omega, ← List.drop_drop, hd6, ← List.drop_drop, List.drop_left]
    rfl
  unfold readQ
  rw [if_neg (by omega), hd6, scan_widen l (pb ++ db) hl]
  simp only
  rw [narrow_widen l hl]
  simp only
  rw [h4, h2, leN_leB4 a ha, leN_leB2 _ hp, if_pos (by rw [hlen, widen_len]; omega)]
  have hc : cut (optB a l pb db) (6 + (widen l).length + 2) pb.length = pb := by
    unfold cut
    rw [hdk, List.take_left]
  have hd : (optB a l pb db).drop (6 + (widen l).length + 2 + pb.length) = db := by
    rw [← List.drop_drop, hdk, List.drop_left]
  rw [hc, hd]
/-- The statements' own 'Same', of options that are. -/
theorem same_yes (a : Nat) (l : ByteArray) (P P' D D' : Option Addr) (pn pc pn' pc' dn dc dn' dc' : Nat) (pb db : List UInt8) (w : World) (hP : RB w P pn pb) (hP' : RB w P' pn' pb) (hD : RB w D dn db) (hD' : RB w D' dn' db) :
    Calls Tryd.prog 15 #[.agg #[.int .u32 (a : Int), .string l, .slice P pn pc, .slice D dn dc], .agg #[.int .u32 (a : Int), .string l, .slice P' pn' pc', .slice D' dn' dc']] w fun e w' => e = .returned (.bool true) ∧ Below w.heap.size w w' := by
  have hB : Below w.heap.size w ((w.alloc (.cells #[.int .u32 (a : Int), .string l, .slice P pn pc, .slice D dn dc] 25)).alloc (.cells #[.int .u32 (a : Int), .string l, .slice P' pn' pc', .slice D' dn' dc'] 25)) := ((Below.refl _ _).alloc (Nat.le_refl _) _).alloc (by simp) _
  have HB := Lib.hid hB
  have hs : (l.toList == l.toList) = true := by simp
  have E1 := fun W (h : Below w.heap.size w W) => eq_any P P' pn pn' pc pc' pb pb W (hP.below h) (hP'.below h)
  have E2 := fun W (h : Below w.heap.size w W) => eq_any D D' dn dn' dc dc' db db W (hD.below h) (hD'.below h)
  simp only [beq_self_eq_true] at E1 E2
  have H1 := Lib.hid E1
  have H2 := Lib.hid E2
  clear hB E1 E2
  go_enter Tryd.func15, Tryd.ntmps15
  go_wp2_with fail
  refine (H1.out _ HB.out).mono ?_
  rintro e w' ⟨rfl, rfl⟩
  go_wp2_with fail
  refine (H2.out _ HB.out).mono ?_
  rintro e w' ⟨rfl, rfl⟩
  go_wp2
  go_ret
  exact ⟨rfl, HB.out⟩
end Go.Proofs.YtokklcfdfjgbjaaDoor

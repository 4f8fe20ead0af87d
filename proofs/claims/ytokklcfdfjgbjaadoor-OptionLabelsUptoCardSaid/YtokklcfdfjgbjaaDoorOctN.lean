/-
  octet: Narrow.
-/
import Derived.Test.YtokklcfdfjgbjaaDoorOctW
namespace Go.Proofs.YtokklcfdfjgbjaaDoor
open Go.RowKit Go
set_option linter.unusedVariables false
/-- The text whose letters, wide, the bytes are. -/
def narrowS : List UInt8 → Option (List UInt8)
  | [] => some []
  | [_] => none
  | p :: z :: r => if letter p && z == 0 then (narrowS r).map (p :: ·) else none
theorem narrow_cons (p z : UInt8) (r : List UInt8) : narrowS (p :: z :: r) = if letter p && z == 0 then (narrowS r).map (p :: ·) else none := by rw [narrowS]
theorem narrow_odd : ∀ (m : Nat) (bs : List UInt8), bs.length = 2 * m + 1 → narrowS bs = none
  | 0, [_], _ => rfl
  | m + 1, p :: z :: r, h => by
    unfold narrowS
    rw [narrow_odd m r (by simp at h; omega)]
    split <;> rfl
theorem narrow_widen (bs : List UInt8) (h : bs.all letter = true) : narrowS (widen bs) = some bs := by
  induction bs with
  | nil => rfl
  | cons p r ih =>
    simp only [List.all_cons, Bool.and_eq_true] at h
    show narrowS (p :: 0 :: widen r) = _
    unfold narrowS
    rw [if_pos (by simp [h.1]), ih h.2]; rfl
theorem narrow_some : ∀ (bs l : List UInt8), narrowS bs = some l → bs = widen l ∧ l.all letter = true
  | [], l, h => by
    unfold narrowS at h
    injection h with h
    subst h
    exact ⟨rfl, rfl⟩
  | [_], l, h => by
    unfold narrowS at h
    cases h
  | p :: z :: r, l, h => by
    unfold narrowS at h
    split at h
    · rename_i hc
      simp only [Bool.and_eq_true, beq_iff_eq] at hc
      cases hr : narrowS r with
      | none => rw [hr] at h; cases h
      | some t =>
        rw [hr] at h
        injection h with h
        obtain ⟨h1, h2⟩ := narrow_some r t hr
        subst h
        rw [hc.2, h1]
        exact ⟨rfl, by simp [hc.1, h2]⟩
    · cases h
/-- What Narrow answers. -/
def NarrowPost (w : World) (bs : List UInt8) (e : Ending) (w' : World) : Prop :=
  (match narrowS bs with
    | some l => e = .returned (.tuple #[.string (strOf l), .int .i64 0])
    | none => e = .returned (.tuple #[.string ByteArray.empty, .int .i64 9])) ∧ Below w.heap.size w w'
theorem narrow_yes {w w' : World} {bs l : List UInt8} (h : narrowS bs = some l) (hb : Below w.heap.size w w') : NarrowPost w bs (.returned (.tuple #[.string (strOf l), .int .i64 0])) w' := by
  unfold NarrowPost; rw [h]; exact ⟨rfl, hb⟩
theorem narrow_no {w w' : World} {bs : List UInt8} (h : narrowS bs = none) (hb : Below w.heap.size w w') : NarrowPost w bs (.returned (.tuple #[.string ByteArray.empty, .int .i64 9])) w' := by
  unfold NarrowPost; rw [h]; exact ⟨rfl, hb⟩
set_option maxRecDepth 100000 in
theorem narrow_any (A : Option Addr) (n c : Nat) (bs : List UInt8) (w : World) (hR : RB w A n bs) (hn : n ≤ 1000000000) :
    Calls Tryd.prog 38 #[.slice A n c] w (NarrowPost w bs) := by
  have HL := Lib.hid hR.1
  by_cases hodd : n % 2 = 0
  · obtain ⟨m, rfl⟩ : ∃ m, n = 2 * m := ⟨n / 2, by omega⟩
    have hd : ((2 * m : Nat) : Int) / 2 = (m : Int) := by omega
    have hrem : ((2 * m : Nat) : Int) % 2 = 0 := by omega
    go_enter Tryd.func38, Tryd.ntmps38
    go_wp2_with (refine wpList_mk0 _ _ rfl rfl _ _ _ m rfl rfl (by omega) (by omega) ?_)
    intro w1 hown1 hg1
    have hb1 : Below w.heap.size w w1 := (Below.refl _ _).grown hg1 (Nat.le_refl _) (by intro g hg; cases hg)
    clear hd hrem
    go_wp2
    go_loopw [4, 5] (fun v x wr => ∃ (j : Nat) (A2 : Option Addr) (c2 : Nat) (l : List UInt8), j ≤ m ∧ x = .int .i64 ((2 * j : Nat) : Int) ∧ v = .slice A2 j c2 ∧ OwnB wr w.heap.size A2 j c2 l ∧ Hid (narrowS bs = (narrowS (bs.drop (2 * j))).map (l ++ ·)) ∧ Below w.heap.size w wr) (fun _ x _ => 2 * m - (intOf x).toNat)
    case atStart => exact ⟨0, _, _, [], Nat.zero_le _, rfl, rfl, hown1, by simp [Hid], hb1⟩
    case round =>
      obtain ⟨j, A2, c2, l, hj, rfl, rfl, hown, hnar, hbl⟩ := hrel
      clear hown1 hb1 hg1
      by_cases hlt : j < m
      · obtain ⟨b, off, p, rfl, hblt, hp, hcell⟩ := hR.at_ (k := 2 * j) (by omega)
        obtain ⟨b', off', z, e', _, hz, hcell'⟩ := hR.at_ (k := 2 * j + 1) (by omega)
        injection e' with e'
        injection e' with e1 e2
        subst e1; subst e2
        have h1 := (hbl.cell (p := ⟨b, off + 2 * j, none⟩) hblt).trans hcell
        have h2 := (hbl.cell (p := ⟨b, off + (2 * j + 1), none⟩) hblt).trans hcell'
        have hdrop : bs.drop (2 * j) = p :: z :: bs.drop (2 * (j + 1)) := by
          have l1 : 2 * j < bs.length := by rw [HL.out]; omega
          have l2 : 2 * j + 1 < bs.length := by rw [HL.out]; omega
          rw [List.drop_eq_getElem_cons l1, List.drop_eq_getElem_cons l2]
          rw [List.getElem?_eq_getElem l1] at hp
          rw [List.getElem?_eq_getElem l2] at hz
          injection hp with hp
          injection hz with hz
          rw [hp, hz]
          rfl
        have HD := Lib.hid hdrop
        have HML := Lib.hid hown.len
        have hpb : (p.toNat : Int) ≤ 255 := by have := p.toNat_lt; omega
        clear hdrop hp hz hcell hcell'
        have hsz := hbl.size
        by_cases hlet : 1 ≤ p.toNat ∧ p.toNat ≤ 127 ∧ z.toNat = 0
        · obtain ⟨k1, k2, k3⟩ := hlet
          have HN : Hid (narrowS bs = (narrowS (bs.drop (2 * (j + 1)))).map ((l ++ [p]) ++ ·)) := by
            have hz0 : z = 0 := UInt8.toNat_inj.1 k3
            have := hnar.out
            rw [HD.out] at this
            rw [narrow_cons, if_pos (by simp [letter, hz0]; omega)] at this
            rw [this, Option.map_map]
            unfold Hid
            congr 1
            funext t
            simp
          go_wp2_with (at_builtin; refine wpList_app _ _ rfl rfl rfl w.heap.size A2 j c2 l rfl (hown.alloc _) (wr.heap.size + 1) (some ⟨wr.heap.size, 0, none⟩) 1 [p] rfl (bs_new _ _ _ _ _ rfl) (by rw [HML.out]; simp; omega) (by simp; omega) ?_)
          intro A3 c3 w3 hown3 hg3
          go_wp2
          go_roundw
          case rel => exact ⟨j + 1, A3, c3, l ++ [p], by omega, by go_num, rfl, hown3, HN, (hbl.alloc hsz _).grown hg3 (by simp; omega) (fun g hg => (hown.blk_lt hg).1)⟩
          case measure => simp [intOf]; omega
        · have HN : Hid (narrowS bs = none) := by
            have := hnar.out
            rw [HD.out] at this
            rw [narrow_cons, if_neg (by
              intro hc
              simp only [letter, Bool.and_eq_true, decide_eq_true_eq, beq_iff_eq] at hc
              exact hlet ⟨hc.1.1, hc.1.2, by rw [hc.2]; rfl⟩)] at this
            exact this
          clear hnar hown
          by_cases k1 : 1 ≤ p.toNat
          · by_cases k2 : p.toNat ≤ 127
            · have k3 : ¬ z.toNat = 0 := fun e => hlet ⟨k1, k2, e⟩
              have k4 : (((z.toNat : Nat) : Int) != 0) = true := by simpa using k3
              clear hlet
              go_wp2
              go_ret2
              exact narrow_no HN.out hbl
            · clear hlet
              go_wp2
              go_ret2
              exact narrow_no HN.out hbl
          · clear hlet
            go_wp2
            go_ret2
            exact narrow_no HN.out hbl
      · obtain rfl : j = m := by omega
        have HN : Hid (narrowS bs = some l) := by
          have := hnar.out
          rw [List.drop_of_length_le (by rw [HL.out]; omega)] at this
          show narrowS bs = some l
          simpa [narrowS] using this
        have hst := run_strOf wr _ A2 l c2 hown.reads
        rw [hown.len] at hst
        go_wp2
        go_ret2
        exact narrow_yes HN.out hbl
  · have hrem : ((n : Nat) : Int) % 2 = 1 := by omega
    have HN := Lib.hid (narrow_odd (n / 2) bs (by rw [hR.1]; omega))
    go_enter Tryd.func38, Tryd.ntmps38
    go_wp2
    go_ret2
    exact narrow_no HN.out (Below.refl _ _)
end Go.Proofs.YtokklcfdfjgbjaaDoor

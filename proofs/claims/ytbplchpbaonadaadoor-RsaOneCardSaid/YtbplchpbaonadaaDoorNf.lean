/-
  nat: Right, limb, trim, bounded, Bits.
-/
import Derived.Test.YtbplchpbaonadaaDoorNl
import Derived.Test.YtbplchpbaonadaaDoorNe
namespace Go.Proofs.YtbplchpbaonadaaDoor
open Go.RowKit Go
set_option linter.unusedVariables false
set_option linter.unusedSimpArgs false
set_option maxRecDepth 100000
theorem limb_any (A : Option Addr) (n c i : Nat) (l : List Nat) (w : World) (h : RU w A n l) (hn : n ≤ 1000000) (hi : i ≤ 1000000) :
    Calls Tryd.prog 50 #[.slice A n c, .int .i64 (i : Int)] w fun e w' => e = .returned (.int .u32 ((l.getD i 0 : Nat) : Int)) ∧ w = w' := by
  by_cases hlt : i < n
  · obtain ⟨b, off, rfl, hb, hc⟩ := h.at_ hlt
    obtain ⟨x, hx⟩ : ∃ x, l.getD i 0 = x := ⟨_, rfl⟩
    rw [hx] at hc ⊢
    have i1 : (i : Int) < (n : Int) := by omega
    have i2 : (0 : Int) ≤ (i : Int) := by omega
    clear hx h
    go_enter Tryd.func50, Tryd.ntmps50
    go_wp2
    go_ret
    exact ⟨rfl, rfl⟩
  · have hz : l.getD i 0 = 0 := by
      rw [List.getD_eq_getElem?_getD, List.getElem?_eq_none (by rw [h.len]; omega)]; rfl
    rw [hz]
    have i1 : ¬ (i : Int) < (n : Int) := by omega
    clear hz h
    go_enter Tryd.func50, Tryd.ntmps50
    go_wp2
    go_ret
    exact ⟨rfl, rfl⟩
theorem right_any (A : Option Addr) (n c : Nat) (l : List Nat) (w : World) (h : RU w A n l) (hn : n ≤ 1000000000) :
    Calls Tryd.prog 39 #[.slice A n c] w fun e w' => e = .returned (.bool (rightB l)) ∧ w = w' := by
  have hl := h.len
  by_cases h1 : n ≤ 256
  · have i1 : (n : Int) ≤ 256 := by omega
    by_cases h2 : n = 0
    · have hr : rightB l = true := by
        have : l = [] := List.eq_nil_of_length_eq_zero (by omega)
        subst this; rfl
      have i2 : ((n : Int) == 0) = true := by simp; omega
      rw [hr]
      have HH := Lib.hid h2
      clear h hl h2 hr
      go_enter Tryd.func39, Tryd.ntmps39
      go_wp2
      go_ret
      exact ⟨rfl, rfl⟩
    · obtain ⟨m, hm⟩ : ∃ m, n = m + 1 := ⟨n - 1, by omega⟩
      obtain ⟨b, off, rfl, hb, hc⟩ := h.at_ (show m < n by omega)
      obtain ⟨x, hx⟩ : ∃ x, l.getD m 0 = x := ⟨_, rfl⟩
      have hr : rightB l = !(x == 0) := by
        unfold rightB
        rw [hl, show n - 1 = m by omega, hx, decide_eq_true h1, show (n == 0) = false by simp; omega]
        rfl
      rw [hr]
      rw [hx] at hc
      have e1 : IntKind.i64.wrap ((n : Int) - 1) = (m : Int) := by rw [show (n : Int) - 1 = m by omega]; exact IntWalk.i64_in _ (by omega)
      have i2 : ((n : Int) == 0) = false := by simp; omega
      have i3 : (m : Int) < (n : Int) := by omega
      have i4 : (0 : Int) ≤ (m : Int) := by omega
      have HM := Lib.hid hm
      have HX := Lib.hid hx
      clear h hl h2 hr hm hx
      by_cases hx0 : x = 0
      · subst hx0
        have t1 : (((0 : Nat) : Int) != 0) = false := by simp
        go_enter Tryd.func39, Tryd.ntmps39
        go_wp2
        go_ret
        exact ⟨rfl, rfl⟩
      · have t1 : ((x : Int) != 0) = true := by simp; omega
        have t2 : (!(x == 0)) = true := by simp; omega
        rw [t2]
        clear t2
        have HX0 := Lib.hid hx0
        clear hx0
        go_enter Tryd.func39, Tryd.ntmps39
        go_wp2
        go_ret
        exact ⟨rfl, rfl⟩
  · have i1 : ¬ (n : Int) ≤ 256 := by omega
    have hr : rightB l = false := by
      unfold rightB
      rw [hl, decide_eq_false h1]
      rfl
    rw [hr]
    clear h hl hr
    go_enter Tryd.func39, Tryd.ntmps39
    go_wp2
    go_ret
    exact ⟨rfl, rfl⟩
theorem trim_any (g n : Nat) (L : List Nat) (w : World) (h : BlkU w g L) (hl : L.length = n) (hn : n ≤ 1000000) :
    Calls Tryd.prog 38 #[.slice (some ⟨g, 0, none⟩) n n] w fun e w' => e = .returned (.slice (some ⟨g, 0, none⟩) (trimN L n) (trimN L n)) ∧ w = w' := by
  have HB := Lib.hid h
  have HL := Lib.hid hl
  clear h hl
  go_enter Tryd.func38, Tryd.ntmps38
  go_wp2
  go_loop [3] (fun vi => ∃ k : Nat, vi = .int .i64 (k : Int) ∧ k ≤ n ∧ Hid (trimN L n = trimN L k)) (fun vi => (intOf vi).toNat)
  case atStart => exact ⟨n, rfl, Nat.le_refl _, rfl⟩
  case round =>
    obtain ⟨k, rfl, hk, HK⟩ := hrel
    rcases k with _ | j
    · have i1 : ¬ ((0 : Nat) : Int) > 0 := by omega
      have HZ : Hid (trimN L n = 0) := HK.out
      clear HK
      go_wp2
      go_ret
      exact ⟨by rw [HZ.out]; rfl, rfl⟩
    · have i1 : ((j + 1 : Nat) : Int) > 0 := by omega
      have cj := HB.out.cell (j := j) (by rw [HL.out]; omega)
      obtain ⟨x, hx⟩ : ∃ x, L.getD j 0 = x := ⟨_, rfl⟩
      rw [hx] at cj
      have e1 : IntKind.i64.wrap (((j + 1 : Nat) : Int) - 1) = (j : Int) := by rw [show ((j + 1 : Nat) : Int) - 1 = j by omega]; exact IntWalk.i64_in _ (by omega)
      have i3 : (j : Int) < (n : Int) := by omega
      have i4 : (0 : Int) ≤ (j : Int) := by omega
      by_cases hx0 : x = 0
      · subst hx0
        have t1 : (((0 : Nat) : Int) == 0) = true := by simp
        have HN : Hid (trimN L n = trimN L j) := by unfold Hid; rw [HK.out, trimN, if_pos hx]
        clear HK hx
        go_wp2
        go_round
        case rel => exact ⟨j, rfl, by omega, HN⟩
        case measure => simp [intOf]
      · have t1 : ((x : Int) == 0) = false := by simp; omega
        have HZ : Hid (trimN L n = j + 1) := by unfold Hid; rw [HK.out, trimN, if_neg (by rw [hx]; exact hx0)]
        have i5 : ((j + 1 : Nat) : Int) ≤ (n : Int) := by omega
        have HX := Lib.hid hx
        have HX0 := Lib.hid hx0
        clear HK hx hx0
        go_wp2
        go_ret
        exact ⟨by rw [HZ.out]; rfl, rfl⟩
/-- The number of a block of limbs, or that it has too many. -/
def FitPost (v : Nat) (w : World) (base : Nat) (e : Ending) (w' : World) : Prop :=
  (v < 4294967296 ^ 256 ∧ ∃ g L, e = .returned (.tuple #[.slice (some ⟨g, 0, none⟩) (num v).length (num v).length, .int .i64 0]) ∧ base ≤ g ∧ BlkU w' g L ∧ Lim L ∧ L.take (num v).length = num v ∧ (num v).length ≤ 256) ∨
  (¬ v < 4294967296 ^ 256 ∧ e = .returned (.tuple #[.slice none 0 0, .int .i64 10]))
theorem trim_blk {g n base : Nat} {L : List Nat} {w : World} (h : BlkU w g L) (hl : L.length = n) (hL : Lim L) : trimN L n = (num (val L)).length ∧ L.take (num (val L)).length = num (val L) := by
  have h1 := trim_num L hL n (by omega)
  rw [List.take_of_length_le (show L.length ≤ n by omega)] at h1
  have h2 := trimN_le L n
  have h3 : trimN L n = (num (val L)).length := by
    rw [← h1, List.length_take]; omega
  exact ⟨h3, by rw [← h3]; exact h1⟩
theorem bounded_any (g n base : Nat) (L : List Nat) (w : World) (h : BlkU w g L) (hl : L.length = n) (hL : Lim L) (hn : n ≤ 1000000) (hb : base ≤ g) :
    Calls Tryd.prog 68 #[.slice (some ⟨g, 0, none⟩) n n] w fun e w' => FitPost (val L) w base e w' ∧ w = w' := by
  have TR := Lib.hid (trim_any g n L w h hl hn)
  obtain ⟨t1, t2⟩ := trim_blk (base := 0) h hl hL
  have hv := num_len (val L) 256
  rw [t1] at TR
  obtain ⟨v, hvv⟩ : ∃ v, val L = v := ⟨_, rfl⟩
  rw [hvv] at t2 hv TR ⊢
  obtain ⟨m, hm⟩ : ∃ m, (num v).length = m := ⟨_, rfl⟩
  rw [hm] at t2 hv TR
  have HH := Lib.hid (show _ ∧ _ ∧ _ ∧ _ ∧ _ from ⟨h, hL, t2, hm, hv⟩)
  have hm1 : m ≤ n := by
    have := trimN_le L n
    rw [t1, hvv, hm] at this
    exact this
  clear h hl hL t1 t2 hvv hm hv
  go_enter Tryd.func68, Tryd.ntmps68
  go_wp2_with fail
  refine TR.out.mono ?_
  rintro e w' ⟨rfl, rfl⟩
  clear TR
  by_cases h256 : m ≤ 256
  · have i1 : ¬ (m : Int) > 256 := by omega
    go_wp2
    go_ret2
    refine ⟨.inl ⟨HH.out.2.2.2.2.1 h256, g, L, by rw [HH.out.2.2.2.1]; rfl, hb, HH.out.1, HH.out.2.1, by rw [HH.out.2.2.2.1]; exact HH.out.2.2.1, by rw [HH.out.2.2.2.1]; exact h256⟩, rfl⟩
  · have i1 : (m : Int) > 256 := by omega
    go_wp2
    go_ret2
    exact ⟨.inr ⟨fun h => h256 (HH.out.2.2.2.2.2 h), rfl⟩, rfl⟩
theorem bits_any (A : Option Addr) (n c : Nat) (l : List Nat) (w : World) (h : RU w A n l) (hn : n ≤ 1000000) :
    Calls Tryd.prog 49 #[.slice A n c] w fun e w' => e = .returned (.int .i64 (if rightB l = true then (bitsN (val l) : Int) else -1)) ∧ w = w' := by
  have RR := Lib.hid (right_any A n c l w h (by omega))
  have hl := h.len
  cases hr : rightB l with
  | false =>
    rw [hr] at RR
    rw [if_neg (by decide)]
    clear h hl hr
    go_enter Tryd.func49, Tryd.ntmps49
    go_wp2_with fail
    refine RR.out.mono ?_
    rintro e w' ⟨rfl, rfl⟩
    clear RR
    go_wp2
    go_ret
    exact ⟨rfl, rfl⟩
  | true =>
    rw [hr] at RR
    rw [if_pos rfl]
    obtain ⟨r1, r2⟩ := (rightB_iff l).1 hr
    by_cases h2 : n = 0
    · have hz : bitsN (val l) = 0 := by
        have : l = [] := List.eq_nil_of_length_eq_zero (by omega)
        subst this; rfl
      rw [hz]
      have i2 : ((n : Int) == 0) = true := by simp; omega
      have HH := Lib.hid h2
      clear h hl h2 hr hz r1 r2
      go_enter Tryd.func49, Tryd.ntmps49
      go_wp2_with fail
      refine RR.out.mono ?_
      rintro e w' ⟨rfl, rfl⟩
      clear RR
      go_wp2
      go_ret
      exact ⟨rfl, rfl⟩
    · obtain ⟨m, hm⟩ : ∃ m, n = m + 1 := ⟨n - 1, by omega⟩
      obtain ⟨b, off, rfl, hb, hc⟩ := h.at_ (show m < n by omega)
      have hbt := bits_top l h.lim r2 (by intro e; subst e; simp at hl; omega)
      rw [hl, show n - 1 = m by omega] at hbt
      have hx32 := h.lim.getD m
      obtain ⟨x, hx⟩ : ∃ x, l.getD m 0 = x := ⟨_, rfl⟩
      rw [hx] at hc hbt hx32
      rw [hbt]
      have LE := Lib.hid (fun w => len32_any x hx32 w)
      have hb32 : bitsN x ≤ 32 := (bits_le x 32).2 hx32
      obtain ⟨y, hy⟩ : ∃ y, bitsN x = y := ⟨_, rfl⟩
      rw [hy] at LE hb32 ⊢
      have e1 : IntKind.i64.wrap ((n : Int) - 1) = (m : Int) := by rw [show (n : Int) - 1 = m by omega]; exact IntWalk.i64_in _ (by omega)
      have e2 : IntKind.i64.wrap (32 * (m : Int)) = ((32 * m : Nat) : Int) := by rw [show 32 * (m : Int) = ((32 * m : Nat) : Int) by omega]; exact IntWalk.i64_in _ (by omega)
      have e3 : IntKind.i64.wrap (((32 * m : Nat) : Int) + (y : Int)) = ((32 * m + y : Nat) : Int) := by rw [show ((32 * m : Nat) : Int) + (y : Int) = ((32 * m + y : Nat) : Int) by omega]; exact IntWalk.i64_in _ (by omega)
      have i2 : ((n : Int) == 0) = false := by simp; omega
      have i3 : (m : Int) < (n : Int) := by omega
      have i4 : (0 : Int) ≤ (m : Int) := by omega
      generalize hM : 32 * m = M at *
      generalize hZ : M + y = z at *
      have HM := Lib.hid (show _ ∧ _ ∧ _ ∧ _ ∧ _ from ⟨hm, hx, hy, hM, hZ⟩)
      clear h hl hr r1 r2 hm hx hbt hy hb32 hM hZ
      go_enter Tryd.func49, Tryd.ntmps49
      go_wp2_with fail
      refine RR.out.mono ?_
      rintro e w' ⟨rfl, rfl⟩
      clear RR
      go_wp2_with fail
      refine (LE.out _).mono ?_
      rintro e w' ⟨rfl, rfl⟩
      clear LE
      go_wp2
      go_ret
      exact ⟨rfl, rfl⟩
end Go.Proofs.YtbplchpbaonadaaDoor

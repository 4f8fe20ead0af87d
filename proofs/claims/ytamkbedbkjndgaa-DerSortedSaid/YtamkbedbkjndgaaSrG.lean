/-
  slices: SortStableFunc by bytes.Compare.
-/
import Derived.Test.YtamkbedbkjndgaaSrF
namespace Go.Proofs.Ytamkbedbkjndgaa
open Go.RowKit Go
set_option linter.unusedVariables false
set_option linter.unusedSimpArgs false
set_option maxRecDepth 100000
theorem symMerge_any (w0 : World) (g n c : Nat) (hn : n ≤ 1000000000) : ∀ (k a m b : Nat) (ds : List Own1) (W : World), b - a ≤ k → a < m → m < b → b ≤ n → ST w0 g n c ds W → Srt leR ds a m → Srt leR ds m b →
    Calls Try.prog 55 #[.slice (some ⟨g, 0, none⟩) n c, .int .i64 (a : Int), .int .i64 (m : Int), .int .i64 (b : Int), .func (Fn.func 40) #[] #[]] W fun e w' => e = .returned (.tuple #[]) ∧ ∃ dz, ST w0 g n c dz w' ∧ Like a b ds dz ∧ Srt leR dz a b := by
  intro k
  induction k with
  | zero => intro a m b ds W h1 h2 h3; omega
  | succ k ih =>
    intro a m b ds W h1 h2 h3 h4 hS s1 s2
    by_cases e1 : m = a + 1
    · exact sym_front w0 W g n c a m b ds hS hn e1 h3 h4 s2
    by_cases e2 : b = m + 1
    · exact sym_back w0 W g n c a m b ds hS hn (by omega) e2 h4 s1
    · exact sym_gen w0 W g n c a m b ds hS hn (by omega) (by omega) h4 s1 s2 (fun a' m' b' ds' W' q1 q2 q3 q4 q5 q6 q7 => ih a' m' b' ds' W' (by omega) q2 q3 q4 q5 q6 q7)
/-- From p on, up to n, stretches of s that are in order. -/
inductive Ch (s n : Nat) (ds : List Own1) : Nat → Prop
  | done (p : Nat) : n ≤ p → Ch s n ds p
  | step (p : Nat) : p < n → Srt leR ds p (min (p + s) n) → Ch s n ds (p + s) → Ch s n ds p
/-- Up to p, stretches of s that are in order. -/
inductive Pre (s : Nat) (ds : List Own1) : Nat → Prop
  | zero : Pre s ds 0
  | step (p : Nat) : Pre s ds p → Srt leR ds p (p + s) → Pre s ds (p + s)
theorem pre_ch {s n p : Nat} {ds : List Own1} (h : Pre s ds p) (hp : p ≤ n) (k : Ch s n ds p) : Ch s n ds 0 := by
  induction h with
  | zero => exact k
  | step p h1 h2 ih =>
    by_cases hs : p < n
    · exact ih (by omega) (.step p hs (by rw [Nat.min_eq_left hp]; exact h2) k)
    · exact ih (by omega) (.done p (by omega))
theorem pre_like {s p a b : Nat} {ds ds' : List Own1} (h : Pre s ds p) (l : Like a b ds ds') (hp : p ≤ a) : Pre s ds' p := by
  induction h with
  | zero => exact .zero
  | step p h1 h2 ih => exact .step p (ih (by omega)) (h2.same fun i _ hi => l.out i (.inl (by omega)))
theorem ch_like {s n p a b : Nat} {ds ds' : List Own1} (h : Ch s n ds p) (l : Like a b ds ds') (hp : b ≤ p) : Ch s n ds' p := by
  induction h with
  | done p h => exact .done p h
  | step p h1 h2 h3 ih => exact .step p h1 (h2.same fun i hi _ => l.out i (.inr (by omega))) (ih (by omega))
theorem ch_two {s n p : Nat} {ds : List Own1} (h : Ch s n ds p) (hp : p + s < n) (hs : 0 < s) : Srt leR ds p (p + s) ∧ Srt leR ds (p + s) (min (p + s + s) n) ∧ Ch s n ds (p + s + s) := by
  cases h with
  | done _ h => omega
  | step _ h1 h2 h3 =>
    cases h3 with
    | done _ h => omega
    | step _ k1 k2 k3 =>
      rw [Nat.min_eq_left (by omega)] at h2
      exact ⟨h2, k2, k3⟩
theorem ch_last {s n p : Nat} {ds : List Own1} (h : Ch s n ds p) (hp : n ≤ p + s) (d : Nat) (hd : s ≤ d) : Ch d n ds p := by
  cases h with
  | done _ h => exact .done p h
  | step _ h1 h2 h3 =>
    rw [Nat.min_eq_right hp] at h2
    exact .step p h1 (by rw [Nat.min_eq_right (by omega)]; exact h2) (.done _ (by omega))
theorem ch_all {s n : Nat} {ds : List Own1} (h : Ch s n ds 0) (hs : n ≤ s) : Srt leR ds 0 n := by
  cases h with
  | done _ h => exact Srt.one (by omega)
  | step _ h1 h2 h3 =>
    rw [Nat.min_eq_right (by omega)] at h2
    exact h2
set_option maxHeartbeats 4000000 in
theorem stable_any (w0 W : World) (g n c : Nat) (ds : List Own1) (hS : ST w0 g n c ds W) (hn : n ≤ 1000000000) :
    Calls Try.prog 52 #[.slice (some ⟨g, 0, none⟩) n c, .int .i64 (n : Int), .func (Fn.func 40) #[] #[]] W fun e w' => e = .returned (.tuple #[]) ∧ ∃ dz, ST w0 g n c dz w' ∧ Like 0 n ds dz ∧ Srt leR dz 0 n := by
  have HS := Lib.hid hS
  clear hS
  go_enter Try.func52, Try.ntmps52
  go_wp2
  go_loopw [7, 8] (fun va vb wl => ∃ (a b : Nat) (dk : List Own1), va = .int .i64 (a : Int) ∧ vb = .int .i64 (b : Int) ∧ a ≤ n ∧ a + 20 ≤ b ∧ b ≤ a + 20 ∧ Hid (ST w0 g n c dk wl ∧ Like 0 n ds dk ∧ Pre 20 dk a)) (fun va _ _ => n - (intOf va).toNat)
  case atStart => exact ⟨0, 20, ds, rfl, rfl, Nat.zero_le _, by omega, by omega, HS.out, Like.refl _ _ _, .zero⟩
  case round =>
    obtain ⟨a, b, dk, rfl, rfl, han, hab, hba, HK⟩ := hrel
    by_cases hlt : b ≤ n
    · as_aux_lemma =>
      have C := Lib.hid (insertion_any w0 wr g n c a b dk HK.out.1 hn (by omega) hlt)
      go_wp2_with fail
      refine C.out.mono ?_
      rintro e w2 ⟨rfl, dl, hst2, hlk2, hso2⟩
      have HF : Hid (ST w0 g n c dl w2 ∧ Like 0 n ds dl ∧ Pre 20 dl b) := ⟨hst2, HK.out.2.1.trans (hlk2.mono (Nat.zero_le _) hlt), by
        obtain rfl : b = a + 20 := by omega
        exact .step a (pre_like HK.out.2.2 hlk2 (Nat.le_refl _)) hso2⟩
      clear hst2 hlk2 hso2
      go_wp2
      go_roundw
      case rel => exact ⟨b, b + 20, dl, rfl, by go_num, hlt, by omega, by omega, HF.out⟩
      case measure => simp [intOf]; omega
    · have C := Lib.hid (insertion_any w0 wr g n c a n dk HK.out.1 hn han (Nat.le_refl _))
      have i1 : (n : Int) < (b : Int) := by omega
      go_wp2_with fail
      refine C.out.mono ?_
      rintro e w2 ⟨rfl, dl, hst2, hlk2, hso2⟩
      have HF : Hid (ST w0 g n c dl w2 ∧ Like 0 n ds dl ∧ Ch 20 n dl 0) := ⟨hst2, HK.out.2.1.trans (hlk2.mono (Nat.zero_le _) (Nat.le_refl _)), by
        refine pre_ch (pre_like HK.out.2.2 hlk2 (Nat.le_refl _)) han ?_
        by_cases h : a < n
        · exact .step a h (by rw [Nat.min_eq_right (by omega)]; exact hso2) (.done _ (by omega))
        · exact .done a (by omega)⟩
      clear hst2 hlk2 hso2 HK C
      go_wp2
      clear i1 hlt hab hba
      go_loopw [6] (fun vs wl => ∃ (s : Nat) (dk : List Own1), vs = .int .i64 (s : Int) ∧ 20 ≤ s ∧ s ≤ 2 * n + 20 ∧ Hid (ST w0 g n c dk wl ∧ Like 0 n ds dk ∧ Ch s n dk 0)) (fun vs _ => 2 * n + 40 - (intOf vs).toNat)
      case atStart => exact ⟨20, dl, rfl, by omega, by omega, HF.out⟩
      case round =>
        obtain ⟨s, dm, rfl, hs1, hs2, HK⟩ := hrel
        by_cases hsn : s < n
        · as_aux_lemma =>
          obtain ⟨d, hd⟩ : ∃ d : Nat, (2 : Int) * (s : Int) = (d : Int) := ⟨2 * s, by omega⟩
          have hd2 : (s : Int) * 2 = (d : Int) := by omega
          have d1 : d ≤ 2 * s := by omega
          have d2 : 2 * s ≤ d := by omega
          clear HF
          go_wp2
          go_loopw [7, 8] (fun va vb wl => ∃ (a b : Nat) (dk : List Own1), va = .int .i64 (a : Int) ∧ vb = .int .i64 (b : Int) ∧ a ≤ n ∧ a + d ≤ b ∧ b ≤ a + d ∧ Hid (ST w0 g n c dk wl ∧ Like 0 n ds dk ∧ Pre d dk a ∧ Ch s n dk a)) (fun va _ _ => n - (intOf va).toNat)
          case atStart => exact ⟨0, d, dm, rfl, rfl, Nat.zero_le _, by omega, by omega, HK.out.1, HK.out.2.1, .zero, HK.out.2.2⟩
          case round =>
            obtain ⟨a, b, dk, rfl, rfl, han, hab, hba, HJ⟩ := hrel
            clear HK
            obtain ⟨m, hm⟩ : ∃ m : Nat, (a : Int) + (s : Int) = (m : Int) := ⟨a + s, by omega⟩
            have m1 : a + s ≤ m := by omega
            have m2 : m ≤ a + s := by omega
            by_cases hlt : b ≤ n
            · have hj := HJ.out
              have T := ch_two hj.2.2.2 (by omega) (by omega)
              have HT : Hid (Srt leR dk a m ∧ Srt leR dk m b ∧ Ch s n dk b) := by
                obtain rfl : m = a + s := by omega
                obtain rfl : b = a + s + s := by omega
                rw [Nat.min_eq_left hlt] at T
                exact T
              clear T
              have C := Lib.hid (symMerge_any w0 g n c hn (b - a) a m b dk wr (Nat.le_refl _) (by omega) (by omega) hlt hj.1 HT.out.1 HT.out.2.1)
              clear hj
              go_wp2_with fail
              refine C.out.mono ?_
              rintro e w2 ⟨rfl, dn, hst2, hlk2, hso2⟩
              have HF : Hid (ST w0 g n c dn w2 ∧ Like 0 n ds dn ∧ Pre d dn b ∧ Ch s n dn b) := ⟨hst2, HJ.out.2.1.trans (hlk2.mono (Nat.zero_le _) hlt), by
                obtain rfl : b = a + d := by omega
                exact .step a (pre_like HJ.out.2.2.1 hlk2 (Nat.le_refl _)) hso2, ch_like HT.out.2.2 hlk2 (Nat.le_refl _)⟩
              clear hst2 hlk2 hso2 C HJ
              go_wp2
              clear hm
              go_roundw
              case rel => exact ⟨b, b + d, dn, rfl, by go_num, hlt, by omega, by omega, HF.out⟩
              case measure => simp [intOf]; omega
            · have i1 : (n : Int) < (b : Int) := by omega
              by_cases hmn : m < n
              · have hj := HJ.out
                have T := ch_two hj.2.2.2 (by omega) (by omega)
                have HT : Hid (Srt leR dk a m ∧ Srt leR dk m n) := by
                  obtain rfl : m = a + s := by omega
                  rw [Nat.min_eq_right (by omega)] at T
                  exact ⟨T.1, T.2.1⟩
                clear T
                have C := Lib.hid (symMerge_any w0 g n c hn (n - a) a m n dk wr (Nat.le_refl _) (by omega) hmn (Nat.le_refl _) hj.1 HT.out.1 HT.out.2)
                clear hj
                go_wp2_with fail
                refine C.out.mono ?_
                rintro e w2 ⟨rfl, dn, hst2, hlk2, hso2⟩
                have HF : Hid (ST w0 g n c dn w2 ∧ Like 0 n ds dn ∧ Ch d n dn 0) := ⟨hst2, HJ.out.2.1.trans (hlk2.mono (Nat.zero_le _) (Nat.le_refl _)), pre_ch (pre_like HJ.out.2.2.1 hlk2 (Nat.le_refl _)) han (.step a (by omega) (by rw [Nat.min_eq_right (by omega)]; exact hso2) (.done _ (by omega)))⟩
                clear hst2 hlk2 hso2 C HJ
                go_wp2
                clear hm hd hd2
                go_roundw
                case rel => exact ⟨d, dn, rfl, by omega, by omega, HF.out⟩
                case measure => simp [intOf]; omega
              · have i2 : ¬ (m : Int) < (n : Int) := by omega
                have HF : Hid (ST w0 g n c dk wr ∧ Like 0 n ds dk ∧ Ch d n dk 0) := ⟨HJ.out.1, HJ.out.2.1, pre_ch HJ.out.2.2.1 han (ch_last HJ.out.2.2.2 (by omega) d (by omega))⟩
                clear HJ
                go_wp2
                clear hm hd hd2
                go_roundw
                case rel => exact ⟨d, dk, rfl, by omega, by omega, HF.out⟩
                case measure => simp [intOf]; omega
        · go_wp2
          go_end0
          exact ⟨rfl, dm, HK.out.1, HK.out.2.1, ch_all HK.out.2.2 (by omega)⟩
theorem sortStable_any (w0 W : World) (g n c : Nat) (ds : List Own1) (hS : ST w0 g n c ds W) (hn : n ≤ 1000000000) :
    Calls Try.prog 44 #[.slice (some ⟨g, 0, none⟩) n c, .func (Fn.func 40) #[] #[]] W fun e w' => e = .returned (.tuple #[]) ∧ ∃ dz, ST w0 g n c dz w' ∧ Like 0 n ds dz ∧ Srt leR dz 0 n := by
  have C := Lib.hid (stable_any w0 W g n c ds hS hn)
  clear hS
  go_enter Try.func44, Try.ntmps44
  go_wp2_with fail
  refine C.out.mono ?_
  rintro e w2 ⟨rfl, h⟩
  have H := Lib.hid h
  clear h
  go_wp2
  go_end0
  exact ⟨rfl, H.out⟩
end Go.Proofs.Ytamkbedbkjndgaa

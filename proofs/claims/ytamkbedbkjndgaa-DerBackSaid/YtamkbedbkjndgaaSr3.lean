/-
  slices: SortStableFunc by bytes.Compare.
-/
import Derived.Test.YtamkbedbkjndgaaSrF
import Derived.Test.YtamkbedbkjndgaaDrW
import Derived.Test.YtamkbedbkjndgaaAppZ
import Derived.Test.YtamkbedbkjndgaaRows2
import Derived.Test.YtamkbedbkjndgaaCpy
import Derived.Lib.SliceRun
import Derived.Test.YtamkbedbkjndgaaDrWk
namespace Go.Proofs.Ytamkbedbkjndgaa
open Go.RowKit Go
set_option linter.unusedVariables false
set_option linter.unusedSimpArgs false
set_option maxRecDepth 100000
theorem symMerge_any (w0 : World) (g n c : Nat) (hn : n ≤ 1000000000) : ∀ (k a m b : Nat) (ds : List Own1) (W : World), b - a ≤ k → a < m → m < b → b ≤ n → ST w0 g n c ds W → Srt leR ds a m → Srt leR ds m b →
    Calls Try.prog 55 #[.slice (some ⟨g, 0, none⟩) n c, .int .i64 (a : Int), .int .i64 (m : Int), .int .i64 (b : Int), .func (Fn.func 40) #[] #[]] W fun e w' => e = .returned (.tuple #[]) ∧ ∃ dz, ST w0 g n c dz w' ∧ Like a b ds dz ∧ Srt leR dz a b := by
  intro k
  induction k with
  | zero => intro a m b ds W h1 h2 h3; omega
  | succ k ih =>
    intro a m b ds W h1 h2 h3 h4 hS s1 s2
    by_cases e1 : m = a + 1
    · exact sym_front w0 W g n c a m b ds hS hn e1 h3 h4 s2
    by_cases e2 : b = m + 1
    · exact sym_back w0 W g n c a m b ds hS hn (by omega) e2 h4 s1
    · exact sym_gen w0 W g n c a m b ds hS hn (by omega) (by omega) h4 s1 s2 (fun a' m' b' ds' W' q1 q2 q3 q4 q5 q6 q7 => ih a' m' b' ds' W' (by omega) q2 q3 q4 q5 q6 q7)
/-- From p on, up to n, stretches of s that are in order. -/
inductive Ch (s n : Nat) (ds : List Own1) : Nat → Prop
  | done (p : Nat) : n ≤ p → Ch s n ds p
  | step (p : Nat) : p < n → Srt leR ds p (min (p + s) n) → Ch s n ds (p + s) → Ch s n ds p
/-- Up to p, stretches of s that are in order. -/
inductive Pre (s : Nat) (ds : List Own1) : Nat → Prop
  | zero : Pre s ds 0
  | step (p : Nat) : Pre s ds p → Srt leR ds p (p + s) → Pre s ds (p + s)
theorem pre_ch {s n p : Nat} {ds : List Own1} (h : Pre s ds p) (hp : p ≤ n) (k : Ch s n ds p) : Ch s n ds 0 := by
  induction h with
  | zero => exact k
  | step p h1 h2 ih =>
    by_cases hs : p < n
    · exact ih (by omega) (.step p hs (by rw [Nat.min_eq_left hp]; exact h2) k)
    · exact ih (by omega) (.done p (by omega))
theorem pre_like {s p a b : Nat} {ds ds' : List Own1} (h : Pre s ds p) (l : Like a b ds ds') (hp : p ≤ a) : Pre s ds' p := by
  induction h with
  | zero => exact .zero
  | step p h1 h2 ih => exact .step p (ih (by omega)) (h2.same fun i _ hi => l.out i (.inl (by omega)))
theorem ch_like {s n p a b : Nat} {ds ds' : List Own1} (h : Ch s n ds p) (l : Like a b ds ds') (hp : b ≤ p) : Ch s n ds' p := by
  induction h with
  | done p h => exact .done p h
  | step p h1 h2 h3 ih => exact .step p h1 (h2.same fun i hi _ => l.out i (.inr (by omega))) (ih (by omega))
theorem ch_two {s n p : Nat} {ds : List Own1} (h : Ch s n ds p) (hp : p + s < n) (hs : 0 < s) : Srt leR ds p (p + s) ∧ Srt leR ds (p + s) (min (p + s + s) n) ∧ Ch s n ds (p + s + s) := by
  cases h with
  | done _ h => omega
  | step _ h1 h2 h3 =>
    cases h3 with
    | done _ h => omega
    | step _ k1 k2 k3 =>
      rw [Nat.min_eq_left (by omega)] at h2
      exact ⟨h2, k2, k3⟩
theorem ch_last {s n p : Nat} {ds : List Own1} (h : Ch s n ds p) (hp : n ≤ p + s) (d : Nat) (hd : s ≤ d) : Ch d n ds p := by
  cases h with
  | done _ h => exact .done p h
  | step _ h1 h2 h3 =>
    rw [Nat.min_eq_right hp] at h2
    exact .step p h1 (by rw [Nat.min_eq_right (by omega)]; exact h2) (.done _ (by omega))
theorem ch_all {s n : Nat} {ds : List Own1} (h : Ch s n ds 0) (hs : n ≤ s) : Srt leR ds 0 n := by
  cases h with
  | done _ h => exact Srt.one (by omega)
  | step _ h1 h2 h3 =>
    rw [Nat.min_eq_right (by omega)] at h2
    exact h2
set_option maxHeartbeats 4000000 in
theorem stable_any (w0 W : World) (g n c : Nat) (ds : List Own1) (hS : ST w0 g n c ds W) (hn : n ≤ 1000000000) :
    Calls Try.prog 52 #[.slice (some ⟨g, 0, none⟩) n c, .int .i64 (n : Int), .func (Fn.func 40) #[] #[]] W fun e w' => e = .returned (.tuple #[]) ∧ ∃ dz, ST w0 g n c dz w' ∧ Like 0 n ds dz ∧ Srt leR dz 0 n := by
  have HS := Lib.hid hS
  clear hS
  go_enter Try.func52, Try.ntmps52
  go_wp2
  go_loopw [7, 8] (fun va vb wl => ∃ (a b : Nat) (dk : List Own1), va = .int .i64 (a : Int) ∧ vb = .int .i64 (b : Int) ∧ a ≤ n ∧ a + 20 ≤ b ∧ b ≤ a + 20 ∧ Hid (ST w0 g n c dk wl ∧ Like 0 n ds dk ∧ Pre 20 dk a)) (fun va _ _ => n - (intOf va).toNat)
  case atStart => exact ⟨0, 20, ds, rfl, rfl, Nat.zero_le _, by omega, by omega, HS.out, Like.refl _ _ _, .zero⟩
  case round =>
    obtain ⟨a, b, dk, rfl, rfl, han, hab, hba, HK⟩ := hrel
    by_cases hlt : b ≤ n
    · as_aux_lemma =>
      have C := Lib.hid (insertion_any w0 wr g n c a b dk HK.out.1 hn (by omega) hlt)
      go_wp2_with fail
      refine C.out.mono ?_
      rintro e w2 ⟨rfl, dl, hst2, hlk2, hso2⟩
      have HF : Hid (ST w0 g n c dl w2 ∧ Like 0 n ds dl ∧ Pre 20 dl b) := ⟨hst2, HK.out.2.1.trans (hlk2.mono (Nat.zero_le _) hlt), by
        obtain rfl : b = a + 20 := by omega
        exact .step a (pre_like HK.out.2.2 hlk2 (Nat.le_refl _)) hso2⟩
      clear hst2 hlk2 hso2
      go_wp2
      go_roundw
      case rel => exact ⟨b, b + 20, dl, rfl, by go_num, hlt, by omega, by omega, HF.out⟩
      case measure => simp [intOf]; omega
    · have C := Lib.hid (insertion_any w0 wr g n c a n dk HK.out.1 hn han (Nat.le_refl _))
      have i1 : (n : Int) < (b : Int) := by omega
      go_wp2_with fail
      refine C.out.mono ?_
      rintro e w2 ⟨rfl, dl, hst2, hlk2, hso2⟩
      have HF : Hid (ST w0 g n c dl w2 ∧ Like 0 n ds dl ∧ Ch 20 n dl 0) := ⟨hst2, HK.out.2.1.trans (hlk2.mono (Nat.zero_le _) (Nat.le_refl _)), by
        refine pre_ch (pre_like HK.out.2.2 hlk2 (Nat.le_refl _)) han ?_
        by_cases h : a < n
        · exact .step a h (by rw [Nat.min_eq_right (by omega)]; exact hso2) (.done _ (by omega))
        · exact .done a (by omega)⟩
      clear hst2 hlk2 hso2 HK C
      go_wp2
      clear i1 hlt hab hba
      go_loopw [6] (fun vs wl => ∃ (s : Nat) (dk : List Own1), vs = .int .i64 (s : Int) ∧ 20 ≤ s ∧ s ≤ 2 * n + 20 ∧ Hid (ST w0 g n c dk wl ∧ Like 0 n ds dk ∧ Ch s n dk 0)) (fun vs _ => 2 * n + 40 - (intOf vs).toNat)
      case atStart => exact ⟨20, dl, rfl, by omega, by omega, HF.out⟩
      case round =>
        obtain ⟨s, dm, rfl, hs1, hs2, HK⟩ := hrel
        by_cases hsn : s < n
        · as_aux_lemma =>
          obtain ⟨d, hd⟩ : ∃ d : Nat, (2 : Int) * (s : Int) = (d : Int) := ⟨2 * s, by omega⟩
          have hd2 : (s : Int) * 2 = (d : Int) := by omega
          have d1 : d ≤ 2 * s := by omega
          have d2 : 2 * s ≤ d := by omega
          clear HF
          go_wp2
          go_loopw [7, 8] (fun va vb wl => ∃ (a b : Nat) (dk : List Own1), va = .int .i64 (a : Int) ∧ vb = .int .i64 (b : Int) ∧ a ≤ n ∧ a + d ≤ b ∧ b ≤ a + d ∧ Hid (ST w0 g n c dk wl ∧ Like 0 n ds dk ∧ Pre d dk a ∧ Ch s n dk a)) (fun va _ _ => n - (intOf va).toNat)
          case atStart => exact ⟨0, d, dm, rfl, rfl, Nat.zero_le _, by omega, by omega, HK.out.1, HK.out.2.1, .zero, HK.out.2.2⟩
          case round =>
            obtain ⟨a, b, dk, rfl, rfl, han, hab, hba, HJ⟩ := hrel
            clear HK
            obtain ⟨m, hm⟩ : ∃ m : Nat, (a : Int) + (s : Int) = (m : Int) := ⟨a + s, by omega⟩
            have m1 : a + s ≤ m := by omega
            have m2 : m ≤ a + s := by omega
            by_cases hlt : b ≤ n
            · have hj := HJ.out
              have T := ch_two hj.2.2.2 (by omega) (by omega)
              have HT : Hid (Srt leR dk a m ∧ Srt leR dk m b ∧ Ch s n dk b) := by
                obtain rfl : m = a + s := by omega
                obtain rfl : b = a + s + s := by omega
                rw [Nat.min_eq_left hlt] at T
                exact T
              clear T
              have C := Lib.hid (symMerge_any w0 g n c hn (b - a) a m b dk wr (Nat.le_refl _) (by omega) (by omega) hlt hj.1 HT.out.1 HT.out.2.1)
              clear hj
              go_wp2_with fail
              refine C.out.mono ?_
              rintro e w2 ⟨rfl, dn, hst2, hlk2, hso2⟩
              have HF : Hid (ST w0 g n c dn w2 ∧ Like 0 n ds dn ∧ Pre d dn b ∧ Ch s n dn b) := ⟨hst2, HJ.out.2.1.trans (hlk2.mono (Nat.zero_le _) hlt), by
                obtain rfl : b = a + d := by omega
                exact .step a (pre_like HJ.out.2.2.1 hlk2 (Nat.le_refl _)) hso2, ch_like HT.out.2.2 hlk2 (Nat.le_refl _)⟩
              clear hst2 hlk2 hso2 C HJ
              go_wp2
              clear hm
              go_roundw
              case rel => exact ⟨b, b + d, dn, rfl, by go_num, hlt, by omega, by omega, HF.out⟩
              case measure => simp [intOf]; omega
            · have i1 : (n : Int) < (b : Int) := by omega
              by_cases hmn : m < n
              · have hj := HJ.out
                have T := ch_two hj.2.2.2 (by omega) (by omega)
                have HT : Hid (Srt leR dk a m ∧ Srt leR dk m n) := by
                  obtain rfl : m = a + s := by omega
                  rw [Nat.min_eq_right (by omega)] at T
                  exact ⟨T.1, T.2.1⟩
                clear T
                have C := Lib.hid (symMerge_any w0 g n c hn (n - a) a m n dk wr (Nat.le_refl _) (by omega) hmn (Nat.le_refl _) hj.1 HT.out.1 HT.out.2)
                clear hj
                go_wp2_with fail
                refine C.out.mono ?_
                rintro e w2 ⟨rfl, dn, hst2, hlk2, hso2⟩
                have HF : Hid (ST w0 g n c dn w2 ∧ Like 0 n ds dn ∧ Ch d n dn 0) := ⟨hst2, HJ.out.2.1.trans (hlk2.mono (Nat.zero_le _) (Nat.le_refl _)), pre_ch (pre_like HJ.out.2.2.1 hlk2 (Nat.le_refl _)) han (.step a (by omega) (by rw [Nat.min_eq_right (by omega)]; exact hso2) (.done _ (by omega)))⟩
                clear hst2 hlk2 hso2 C HJ
                go_wp2
                clear hm hd hd2
                go_roundw
                case rel => exact ⟨d, dn, rfl, by omega, by omega, HF.out⟩
                case measure => simp [intOf]; omega
              · have i2 : ¬ (m : Int) < (n : Int) := by omega
                have HF : Hid (ST w0 g n c dk wr ∧ Like 0 n ds dk ∧ Ch d n dk 0) := ⟨HJ.out.1, HJ.out.2.1, pre_ch HJ.out.2.2.1 han (ch_last HJ.out.2.2.2 (by omega) d (by omega))⟩
                clear HJ
                go_wp2
                clear hm hd hd2
                go_roundw
                case rel => exact ⟨d, dk, rfl, by omega, by omega, HF.out⟩
                case measure => simp [intOf]; omega
        · go_wp2
          go_end0
          exact ⟨rfl, dm, HK.out.1, HK.out.2.1, ch_all HK.out.2.2 (by omega)⟩
theorem sortStable_any (w0 W : World) (g n c : Nat) (ds : List Own1) (hS : ST w0 g n c ds W) (hn : n ≤ 1000000000) :
    Calls Try.prog 44 #[.slice (some ⟨g, 0, none⟩) n c, .func (Fn.func 40) #[] #[]] W fun e w' => e = .returned (.tuple #[]) ∧ ∃ dz, ST w0 g n c dz w' ∧ Like 0 n ds dz ∧ Srt leR dz 0 n := by
  have C := Lib.hid (stable_any w0 W g n c ds hS hn)
  clear hS
  go_enter Try.func44, Try.ntmps44
  go_wp2_with fail
  refine C.out.mono ?_
  rintro e w2 ⟨rfl, h⟩
  have H := Lib.hid h
  clear h
  go_wp2
  go_end0
  exact ⟨rfl, H.out⟩
end Go.Proofs.Ytamkbedbkjndgaa
namespace Go.Proofs.Ytamkbedbkjndgaa
open Go.RowKit Go
set_option linter.unusedVariables false
set_option linter.unusedSimpArgs false
set_option maxRecDepth 100000
theorem bss_row2 : RowT 34 22 1 24 (.slice none 0 0) := ⟨Try.underlying34, by kernel_rfl, rfl, by decide⟩
/-- Parts that lie in a row. -/
structure PR (w : World) (A : Option Addr) (n : Nat) (ds : List Own1) : Prop where
  len : ds.length = n
  rd : ReadR w A (ds.map Own1.val)
  ok : ∀ x ∈ ds, RB w x.1 x.2.1 x.2.2.2
theorem PR.below {w w' : World} {A : Option Addr} {n : Nat} {ds : List Own1} (h : PR w A n ds) (hb : Below w.heap.size w w') : PR w' A n ds := ⟨h.len, h.rd.below hb (Nat.le_refl _), fun x hx => (h.ok x hx).below hb⟩
theorem PR.cell {w : World} {A : Option Addr} {n : Nat} {ds : List Own1} (h : PR w A n ds) {i : Nat} {x : Own1} (hx : ds[i]? = some x) : ∃ b off, A = some ⟨b, off, none⟩ ∧ b < w.heap.size ∧ w.cell? ⟨b, off + i, none⟩ = some (.slice x.1 x.2.1 x.2.2.1) :=
  h.rd.at_ (j := i) (u := x.val) (by rw [List.getElem?_map, hx]; rfl)
theorem PR.parts {w : World} {A : Option Addr} {n : Nat} {ds : List Own1} (h : PR w A n ds) : Parts w A n (fun r => ((ds.getD r Row1.nul).1, (ds.getD r Row1.nul).2.1, (ds.getD r Row1.nul).2.2.1)) (fun r => (ds.getD r Row1.nul).2.2.2) := fun hn => by
  obtain ⟨b, off, rfl, hb, hc⟩ := h.rd (by intro e; have := congrArg List.length e; simp [h.len] at this; omega)
  refine ⟨b, off, rfl, hb, fun r hr => ?_⟩
  have hg : ds.getD r Row1.nul = ds[r]'(by rw [h.len]; exact hr) := by rw [List.getD_eq_getElem?_getD, List.getElem?_eq_getElem (by rw [h.len]; exact hr)]; rfl
  simp only [hg]
  exact ⟨hc r _ (by rw [List.getElem?_map, List.getElem?_eq_getElem (by rw [h.len]; exact hr)]; rfl), h.ok _ (List.getElem_mem _)⟩
def flat (ds : List Own1) : List UInt8 := (ds.map txt).flatten
theorem flat_map (ds : List Own1) : ds.flatMap (fun x => x.2.2.2) = flat ds := by
  unfold flat
  rw [List.flatMap_def]
  rfl
theorem flat_len_perm {ds dz : List Own1} (h : dz.Perm ds) : (flat dz).length = (flat ds).length := by
  unfold flat
  exact ((h.map txt).flatten).length_eq
theorem joinP_any (A : Option Addr) (n c : Nat) (ds : List Own1) (w : World) (hP : PR w A n ds) (hn : n ≤ 1000000) (hlen : (flat ds).length ≤ 140737488355328) :
    Calls Try.prog 25 #[.slice A n c] w (Fresh w (flat ds)) := by
  have hj := joinN_list ds n (by rw [hP.len]; exact Nat.le_refl _)
  rw [List.take_of_length_le (by rw [hP.len]; exact Nat.le_refl _), flat_map] at hj
  have := join_any A n c _ _ w hP.parts hn (by rw [hj]; exact hlen)
  rw [hj] at this
  exact this
theorem PR.prefix_ {n : Nat} {ds : List Own1} (hl : ds.length = n) (k : Nat) (hk : k ≤ n) : joinN (fun r => (ds.getD r Row1.nul).2.2.2) k = flat (ds.take k) := by
  rw [joinN_list ds k (by omega), flat_map]
/-- slices.Clone. -/
theorem clone_any (A : Option Addr) (n c : Nat) (ds : List Own1) (w : World) (hP : PR w A n ds) (hn : n ≤ 1000000) :
    Calls Try.prog 43 #[.slice A n c] w fun e w' => ∃ A2 c2, e = .returned (.slice A2 n c2) ∧ OwnR w' w.heap.size 22 1 A2 n c2 (ds.map Own1.val) ∧ Below w.heap.size w w' := by
  cases hA : A with
  | none =>
    obtain rfl : ds = [] := by
      rcases ds with _ | ⟨x, r⟩
      · rfl
      · obtain ⟨b, off, e, _⟩ := hP.cell (i := 0) (x := x) rfl
        rw [hA] at e; cases e
    obtain rfl : n = 0 := by have := hP.len; simpa using this.symm
    have EN := fun (W : World) => Lib.run_eql_slice_nil (P := Try.prog) W _ _ none 0 c 0 0 Try.underlying34
    clear hP hA
    go_enter Try.func43, Try.ntmps43
    go_wp2
    go_ret
    exact ⟨none, 0, rfl, OwnR.nil _ _ _ _, Below.refl _ _⟩
  | some ad =>
    subst hA
    have hl := hP.len
    have HC : Hid (∀ (j : Nat) (u : Value), (ds.map Own1.val)[j]? = some u → (w.alloc (.cells #[] 22)).cell? (ad.add j) = some u) := fun j u hu => by
      obtain ⟨b, off, e, hb, hc⟩ := (hP.rd.alloc (.cells #[] 22)).at_ hu
      cases e
      rw [show (⟨b, off, none⟩ : Addr).add j = ⟨b, off + j, none⟩ by unfold Addr.add; split <;> simp_all]
      exact hc
    have H1 : Hid (∀ u ∈ ds.map Own1.val, u.oneCell' = true) := fun u hu => by
      obtain ⟨x, _, rfl⟩ := List.mem_map.1 hu
      rfl
    have hmax : 0 + n ≤ maxLen := by unfold maxLen; omega
    have HL := Lib.hid hl
    have EN := fun (W : World) => Lib.run_eql_slice_nil (P := Try.prog) W _ _ (some ad) n c 0 0 Try.underlying34
    clear hP hl
    go_enter Try.func43, Try.ntmps43
    go_wp2_with (at_builtin; refine wpList_appR bss_row2 _ _ rfl rfl rfl w.heap.size (some ⟨w.heap.size, 0, none⟩) 0 0 [] rfl (OwnR.lit w 22 1 #[] 0 (Nat.zero_le _) rfl) ad n c (ds.map Own1.val) rfl (by rw [List.length_map, HL.out]; omega) HC.out H1.out hmax (by omega) (by simp) ?_)
    intro V' c' w2 ho hg
    have hb : Below w.heap.size w w2 := (kp_alloc (Below.refl _ _) (.cells #[] 22)).grown hg (by simp) (fun g hg => (show w.heap.size = g from by simpa [blk] using hg) ▸ Nat.le_refl _)
    go_wp2
    go_ret
    exact ⟨V', c', rfl, ho, hb⟩
theorem sort0 (A : Option Addr) (c : Nat) (w : World) :
    Calls Try.prog 44 #[.slice A 0 c, .func (Fn.func 40) #[] #[]] w fun e w' => e = .returned (.tuple #[]) ∧ w = w' := by
  have C1 : Hid (∀ W, Calls Try.prog 54 #[.slice A 0 c, .int .i64 0, .int .i64 0, .func (Fn.func 40) #[] #[]] W fun e w' => e = .returned (.tuple #[]) ∧ W = w') := fun W => by
    go_enter Try.func54, Try.ntmps54
    go_wp2
    refine wp_loop_rounds 1 ?_
    rw [rounds_succ]
    go_wp2
    go_end0
    exact ⟨rfl, rfl⟩
  have C : Hid (Calls Try.prog 52 #[.slice A 0 c, .int .i64 0, .func (Fn.func 40) #[] #[]] w fun e w' => e = .returned (.tuple #[]) ∧ w = w') := by
    go_enter Try.func52, Try.ntmps52
    go_wp2
    refine wp_loop_rounds 1 ?_
    rw [rounds_succ]
    go_wp2_with fail
    refine (C1.out _).mono ?_
    rintro e w' ⟨rfl, rfl⟩
    go_wp2
    refine wp_loop_rounds 1 ?_
    rw [rounds_succ]
    go_wp2
    go_end0
    exact ⟨rfl, rfl⟩
  go_enter Try.func44, Try.ntmps44
  go_wp2_with fail
  refine C.out.mono ?_
  rintro e w2 ⟨rfl, rfl⟩
  go_wp2
  go_end0
  exact ⟨rfl, rfl⟩
theorem sets_any (A : Option Addr) (n c : Nat) (ds : List Own1) (w : World) (hP : PR w A n ds) (hn : n ≤ 1000000) (hlen : (flat ds).length ≤ 140737488355328) :
    Calls Try.prog 20 #[.slice A n c] w (Fresh w (sortQ (ds.map txt)).flatten) := by
  have CL := Lib.hid (clone_any A n c ds w hP hn)
  have HP := Lib.hid hP
  clear hP
  by_cases h0 : n = 0
  · subst h0
    have S := Lib.hid (fun A c W => sort0 A c W)
    have hd : ds = [] := List.length_eq_zero_iff.1 HP.out.len
    subst hd
    go_enter Try.func20, Try.ntmps20
    go_wp2_with fail
    refine CL.out.mono ?_
    rintro e w1 ⟨A2, c2, rfl, ho, hb1⟩
    go_wp2_with fail
    refine (S.out _ _ _).mono ?_
    rintro e w' ⟨rfl, rfl⟩
    have J := Lib.hid (joinP_any A2 0 c2 [] w1 ⟨rfl, ho.reads, fun x hx => by cases hx⟩ (by omega) (by simp [flat]))
    have HB := Lib.hid hb1
    clear ho hb1
    go_wp2_with fail
    refine J.out.mono ?_
    rintro e w2 ⟨A3, n3, c3, rfl, hown, hb2⟩
    go_wp2
    go_ret
    exact ⟨A3, n3, c3, rfl, by rw [show (sortQ (([] : List Own1).map txt)).flatten = flat [] by simp [sortQ, flat]]; exact hown.lower HB.out.size, kp_call HB.out hb2⟩
  · have HL := Lib.hid hlen
    clear hlen
    go_enter Try.func20, Try.ntmps20
    go_wp2_with fail
    refine CL.out.mono ?_
    rintro e w1 ⟨A2, c2, rfl, ho, hb1⟩
    obtain ⟨g, rfl, hg1, hg2⟩ := ho.shape (by have := ho.cap.1; omega)
    have S := Lib.hid (sortStable_any w w1 g n c2 ds ⟨ho, hb1, fun x hx => HP.out.ok x hx⟩ (by omega))
    clear ho hb1
    go_wp2_with fail
    refine S.out.mono ?_
    rintro e w2 ⟨rfl, dz, hst, hlk, hso⟩
    have HQ : Hid (flat dz = (sortQ (ds.map txt)).flatten) := by
      unfold Hid flat
      rw [sortQ_of hst.len hlk.perm hso]
    have J := Lib.hid (joinP_any (some ⟨g, 0, none⟩) n c2 dz w2 ⟨hst.len, hst.own.reads, fun x hx => hst.rb (List.mem_iff_getElem?.1 hx).choose_spec hst.bel⟩ hn (by rw [flat_len_perm hlk.perm]; exact HL.out))
    have HB := Lib.hid hst.bel
    clear hst hlk hso
    go_wp2_with fail
    refine J.out.mono ?_
    rintro e w3 ⟨A3, n3, c3, rfl, hown, hb2⟩
    go_wp2
    go_ret
    rw [HQ.out] at hown
    exact ⟨A3, n3, c3, rfl, hown.lower HB.out.size, kp_call HB.out hb2⟩
end Go.Proofs.Ytamkbedbkjndgaa
namespace Go.Proofs.Ytamkbedbkjndgaa
open Go.RowKit Go
set_option linter.unusedVariables false
set_option linter.unusedSimpArgs false
set_option maxRecDepth 100000
theorem take_snoc1 {ds : List Own1} {i : Nat} {x : Own1} (h : ds[i]? = some x) : ds.take (i + 1) = ds.take i ++ [x] := by rw [List.take_add_one, h]; rfl
set_option maxHeartbeats 4000000 in
theorem rsets_any (A : Option Addr) (n c : Nat) (ds : List Own1) (w : World) (hP : PR w A n ds) (hn : n ≤ 1000000) (hlen : (flat ds).length ≤ 140737488355328) :
    Calls Try.prog 22 #[.slice A n c] w (Fresh w (sortQ (ds.map txt)).flatten) := by
  have HP := Lib.hid hP
  have HL := Lib.hid hlen
  clear hP hlen
  go_enter Try.func22, Try.ntmps22
  go_wp2
  go_loopw [3, 4] (fun v i wl => ∃ (k : Nat) (A2 : Option Addr) (c2 : Nat) (dk : List Own1), v = .slice A2 k c2 ∧ i = .int .i64 (k : Int) ∧ k ≤ n ∧ OwnR wl w.heap.size 22 1 A2 k c2 (dk.map Own1.val) ∧ Below w.heap.size w wl ∧ Hid (dk.Perm (ds.take k) ∧ Srt leR dk 0 k)) (fun _ i _ => n - (intOf i).toNat)
  case atStart => exact ⟨0, none, 0, [], rfl, rfl, Nat.zero_le _, OwnR.nil _ _ _ _, Below.refl _ _, by simp, Srt.one (by omega)⟩
  case round =>
    obtain ⟨k, A2, c2, dk, rfl, rfl, hk, hown, hb, HK⟩ := hrel
    by_cases hlt : k < n
    · as_aux_lemma =>
      obtain ⟨x, hx⟩ : ∃ x, ds[k]? = some x := ⟨_, List.getElem?_eq_getElem (by rw [HP.out.len]; exact hlt)⟩
      obtain ⟨b, off, rfl, hbb, hc0⟩ := HP.out.cell hx
      have hc1 := kp_cell hb hc0
      have HCX := Lib.hid hc0
      have HX := Lib.hid hx
      have hsz := hb.size
      have hmax : k + 1 ≤ maxLen := by unfold maxLen; omega
      have HAL : Hid ((wr.alloc (.cells #[.slice x.1 x.2.1 x.2.2.1] 22)).heap[wr.heap.size]? = some (.cells #[.slice x.1 x.2.1 x.2.2.1] 22)) := has_new _ _
      have HOW := Lib.hid (hown.alloc (.cells #[.slice x.1 x.2.1 x.2.2.1] 22))
      have H1 : Hid (∀ u ∈ (#[.slice x.1 x.2.1 x.2.2.1] : Array Value).toList, u.oneCell' = true) := by intro u hu; simp at hu; subst hu; rfl
      clear hc0 hx
      go_wp2_with (at_builtin; refine wpList_appL bss_row2 _ _ rfl rfl rfl w.heap.size A2 k c2 _ rfl HOW.out wr.heap.size 1 1 #[.slice x.1 x.2.1 x.2.2.1] _ rfl HAL.out rfl H1.out hmax (by omega) (by simp; omega) ?_)
      intro V' c' w5 ho5 hg5
      have hb5 : Below w.heap.size w w5 := (kp_alloc hb _).grown hg5 (by simp; omega) (fun g hg => (HOW.out.blk_lt hg).1)
      obtain ⟨g, rfl, hgb, hgl⟩ := ho5.shape (by have := ho5.cap.1; omega)
      have hst : ST w g (k + 1) c' (dk ++ [x]) w5 := by
        refine ⟨by rw [List.map_append]; exact ho5, hb5, fun y hy => ?_⟩
        rcases List.mem_append.1 hy with hy | hy
        · exact HP.out.ok y (List.mem_of_mem_take ((HK.out.1.mem_iff).1 hy))
        · rw [List.mem_singleton.1 hy]; exact HP.out.ok x (List.mem_of_getElem? HX.out)
      have hdl : dk.length = k := by have := hown.len; simpa using this
      have HJ0 : Hid (ST w g (k + 1) c' (dk ++ [x]) w5 ∧ (∃ D : List Own1, D = (dk ++ [x]).set k x ∧ D.Perm (ds.take (k + 1)) ∧ InJ D 0 k k)) := ⟨hst, _, rfl, by
        rw [take_snoc1 HX.out]
        have : (dk ++ [x]).set k x = dk ++ [x] := by rw [← hdl]; simp
        rw [this]
        exact HK.out.1.append_right _, by
        have : (dk ++ [x]).set k x = dk ++ [x] := by rw [← hdl]; simp
        rw [this]
        exact inj_start (HK.out.2.same fun i _ hi => by rw [List.getElem?_append_left (by omega)])⟩
      clear hst ho5 hb5 hg5 hown hdl HOW HAL hb
      go_wp2
      go_loopw [5] (fun vj wl => ∃ (j : Nat) (dj : List Own1), vj = .int .i64 (j : Int) ∧ j ≤ k ∧ Hid (ST w g (k + 1) c' dj wl ∧ (∃ D : List Own1, D = dj.set j x ∧ D.Perm (ds.take (k + 1)) ∧ InJ D 0 k j))) (fun vj _ => (intOf vj).toNat)
      case atStart => exact ⟨k, dk ++ [x], rfl, Nat.le_refl _, HJ0.out⟩
      case round =>
        obtain ⟨j, dj, rfl, hjk, HJ⟩ := hrel
        clear HJ0
        obtain ⟨hst, D, hD, hDp, hDi⟩ := HJ.out
        have hd1 := kp_cell hst.bel HCX.out
        have hexit : (j = 0 ∨ ∃ y, dj[j - 1]? = some y ∧ ¬ Lib.compareBytes x.2.2.2 y.2.2.2 < 0) → Hid (D.Perm (ds.take (k + 1)) ∧ Srt leR D 0 (k + 1)) := fun h => by
          refine ⟨hDp, ?_⟩
          rcases h with rfl | ⟨y, hy, hc⟩
          · exact inj_first hDi
          · by_cases hj0 : j = 0
            · subst hj0; exact inj_first hDi
            · obtain ⟨q, rfl⟩ : ∃ q, j = q + 1 := ⟨j - 1, by omega⟩
              have hl := hst.len
              refine inj_stop (x := y) (y := x) hDi (Nat.zero_le _) ?_ ?_ (leR_of_not hc)
              · rw [hD, List.getElem?_set_ne (by omega)]; exact hy
              · rw [hD, List.getElem?_set_self (by omega)]
        have HEX := Lib.hid hexit
        have HSS := Lib.hid hst
        have HDD := Lib.hid hD
        obtain ⟨v0, hv0⟩ := hst.get (show j < k + 1 by omega)
        have cj := hst.cell hv0
        have fj := hst.free j
        have HFIN : Hid (∀ kk, ST w g (k + 1) c' D (((wr.drewN kk)).setCell ⟨g, j, none⟩ (.slice x.1 x.2.1 x.2.2.1))) := fun kk => by
          have h9 := hst.drewN kk
          refine ⟨?_, kp_set h9.bel h9.ge, fun z hz => ?_⟩
          · rw [hD]
            have := h9.own.stored j x.val
            rw [← List.map_set] at this
            exact this
          · rw [hDp.mem_iff] at hz
            exact HP.out.ok z (List.mem_of_mem_take hz)
        by_cases hj0 : 0 < j
        · obtain ⟨q, rfl⟩ : ∃ q, j = q + 1 := ⟨j - 1, by omega⟩
          obtain ⟨y, hy⟩ := hst.get (show q < k + 1 by omega)
          have cq := hst.cell hy
          have CC := Lib.hid (fun kk => (ahead_any x.1 y.1 x.2.1 x.2.2.1 y.2.1 y.2.2.1 x.2.2.2 y.2.2.2 (wr.drewN kk) ((HP.out.ok x (List.mem_of_getElem? HX.out)).below (hst.drewN kk).bel) (hst.rb hy (hst.drewN kk).bel)).mono (R' := fun e w' => e = .returned (.bool (decide (Lib.compareBytes x.2.2.2 y.2.2.2 < 0))) ∧ w' = wr.drewN kk) fun e w' h => ⟨h.1, h.2.symm⟩)
          have HNX : Hid (Lib.compareBytes x.2.2.2 y.2.2.2 < 0 → ∀ kk, ST w g (k + 1) c' (dj.set (q + 1) y) ((wr.drewN kk).setCell ⟨g, q + 1, none⟩ (.slice y.1 y.2.1 y.2.2.1)) ∧ (∃ D : List Own1, D = (dj.set (q + 1) y).set q x ∧ D.Perm (ds.take (k + 1)) ∧ InJ D 0 k q)) := fun hc kk => by
            have h9 := hst.drewN kk
            have hl := hst.len
            refine ⟨⟨?_, kp_set h9.bel h9.ge, fun z hz => ?_⟩, _, rfl, ?_, ?_⟩
            · have := h9.own.stored (q + 1) y.val
              rw [← List.map_set] at this
              exact this
            · rcases List.mem_or_eq_of_mem_set hz with hz | rfl
              · exact hst.ok z hz
              · exact hst.ok _ (List.mem_of_getElem? hy)
            all_goals
              have e1 : D[q + 1]? = some x := by rw [hD, List.getElem?_set_self (by omega)]
              have e2 : D[q]? = some y := by rw [hD, List.getElem?_set_ne (by omega)]; exact hy
              have e3 : dj.set (q + 1) y = D.set (q + 1) y := by rw [hD, List.set_set]
              rw [e3]
            · exact (swap_perm D (q + 1) q x y e1 e2).trans hDp
            · exact inj_step hDi (Nat.zero_le _) hjk e2 e1 (leR_of_lt hc)
          have HEX2 := Lib.hid (fun hc => hexit (.inr ⟨y, by rw [Nat.add_sub_cancel]; exact hy, hc⟩))
          clear hst hD hDp hDi hexit hy hv0
          have i1 : (q : Int) + 1 < (k : Int) + 1 := by omega
          have i2 : (q : Int) < (k : Int) + 1 := by omega
          have i3 : ((q : Int) + 1).toNat = q + 1 := by omega
          have i4 : (0 : Int) ≤ (q : Int) + 1 := by omega
          have w1 : IntKind.i64.wrap ((q : Int) + 1 - 1) = (q : Int) := by rw [IntKind.wrap_i64]; omega
          have w2 : IntKind.i64.wrap (q : Int) = (q : Int) := by rw [IntKind.wrap_i64]; omega
          have i6 : (0 : Int) ≤ (q : Int) := by omega
          have i7 : ((q : Int)).toNat = q := by omega
          have i8 : (0 : Int) < (q : Int) + 1 := by omega
          have i9 : decide ((q : Int) + 1 > 0) = true := by simp <;> omega
          have i10 : (k : Int) < (n : Int) := by omega
          by_cases hc : Lib.compareBytes x.2.2.2 y.2.2.2 < 0
          · have hd : decide (Lib.compareBytes x.2.2.2 y.2.2.2 < 0) = true := by simpa using hc
            have HN := Lib.hid (HNX.out hc)
            go_wp2_with fail
            go_quiet ((go_at_call 41; exact Calls.quiet_of_same (CC.out _)))
            clear i9
            go_wp2
            go_roundw
            case rel => exact ⟨q, _, by go_num, by omega, HN.out _⟩
            case measure => (first | (simp [intOf]; done) | (simp [intOf]; omega))
          · have hd : decide (Lib.compareBytes x.2.2.2 y.2.2.2 < 0) = false := by simpa using hc
            have HN := Lib.hid (HEX2.out hc)
            go_wp2_with fail
            go_quiet ((go_at_call 41; exact Calls.quiet_of_same (CC.out _)))
            clear i9
            go_wp2
            go_roundw
            case rel => exact ⟨k + 1, some ⟨g, 0, none⟩, c', D, rfl, by go_num, by omega, (HFIN.out _).own, (HFIN.out _).bel, HN.out⟩
            case measure => (first | (simp [intOf]; done) | (simp [intOf]; omega))
        · obtain rfl : j = 0 := by omega
          have HN := Lib.hid (hexit (.inl rfl))
          clear hst hD hDp hDi hexit hv0
          have i10 : (k : Int) < (n : Int) := by omega
          have i9 : decide ((0 : Int) > 0) = false := by simp
          go_wp2_with fail
          go_quiet (fail)
          go_wp2
          go_roundw
          case rel => exact ⟨k + 1, some ⟨g, 0, none⟩, c', D, rfl, by go_num, by omega, (HFIN.out _).own, (HFIN.out _).bel, HN.out⟩
          case measure => (first | (simp [intOf]; done) | (simp [intOf]; omega))
    · obtain rfl : k = n := by omega
      have hdl : dk.length = k := by have := hown.len; simpa using this
      have hpm : dk.Perm ds := by
        have := HK.out.1
        rwa [List.take_of_length_le (by rw [HP.out.len]; exact Nat.le_refl _)] at this
      have HQ : Hid (flat dk = (sortQ (ds.map txt)).flatten) := by
        unfold Hid flat
        rw [sortQ_of hdl hpm HK.out.2]
      rename World => wq
      have hP2 : PR wq A2 k dk := ⟨hdl, hown.reads, fun x hx => (HP.out.ok x (hpm.mem_iff.1 hx)).below hb⟩
      have HP2 := Lib.hid hP2
      have hln : (flat dk).length ≤ 140737488355328 := by rw [flat_len_perm hpm]; exact HL.out
      have HLN := Lib.hid (fun j (hj : j ≤ k) => show (joinN (fun r => (dk.getD r Row1.nul).2.2.2) j).length ≤ 140737488355328 from by
        have h1 := joinN_mono (fun r => (dk.getD r Row1.nul).2.2.2) j k hj
        rw [PR.prefix_ hdl k (Nat.le_refl _), List.take_of_length_le (by rw [hdl]; exact Nat.le_refl _)] at h1
        exact Nat.le_trans h1 hln)
      have HFL : Hid (joinN (fun r => (dk.getD r Row1.nul).2.2.2) k = flat dk) := by
        unfold Hid
        rw [PR.prefix_ hdl k (Nat.le_refl _), List.take_of_length_le (by rw [hdl]; exact Nat.le_refl _)]
      have HB := Lib.hid hb
      have hsz := hb.size
      clear hdl hpm hP2 hln hown
      go_wp2
      go_loopw [6, 7] (fun v i wl => ∃ (j : Nat) (A3 : Option Addr) (n3 c3 : Nat), j ≤ k ∧ i = .int .i64 (j : Int) ∧ v = .slice A3 n3 c3 ∧ OwnB wl wq.heap.size A3 n3 c3 (joinN (fun r => (dk.getD r Row1.nul).2.2.2) j) ∧ Below wq.heap.size wq wl) (fun _ i _ => k - (intOf i).toNat)
      case atStart => exact ⟨0, _, _, _, Nat.zero_le _, rfl, rfl, OwnB.nil _ _, Below.refl _ _⟩
      case round =>
        obtain ⟨j, A3, n3, c3, hj, rfl, rfl, hown, hbl⟩ := hrel
        clear hb
        by_cases hlt2 : j < k
        · obtain ⟨z, hz⟩ : ∃ z, dk[j]? = some z := ⟨_, List.getElem?_eq_getElem (by rw [HP2.out.len]; exact hlt2)⟩
          obtain ⟨b, off, rfl, hblt, hc0⟩ := HP2.out.cell hz
          have hcell := kp_cell hbl hc0
          have hR := (HP2.out.ok z (List.mem_of_getElem? hz)).below hbl
          have HZ : Hid (joinN (fun r => (dk.getD r Row1.nul).2.2.2) (j + 1) = joinN (fun r => (dk.getD r Row1.nul).2.2.2) j ++ z.2.2.2) := by
            unfold Hid
            rw [joinN_succ, List.getD_eq_getElem?_getD, hz]
            rfl
          have hle := HLN.out (j + 1) (by omega)
          rw [HZ.out, List.length_append, hR.1, hown.len] at hle
          have hsz2 := hbl.size
          clear hc0 hz
          go_wp2_with (at_builtin; refine wpList_apn _ _ rfl rfl rfl wq.heap.size A3 n3 c3 _ rfl hown z.1 z.2.1 z.2.2.1 z.2.2.2 rfl hR (by omega) (by omega) ?_)
          intro A4 c4 w3 hown3 hg3
          go_wp2
          go_roundw
          case rel => exact ⟨j + 1, A4, _, c4, by omega, by go_num, rfl, by rw [HZ.out]; exact hown3, hbl.grown hg3 (by omega) (fun g hg => (hown.blk_lt hg).1)⟩
          case measure => simp [intOf]; omega
        · obtain rfl : j = k := by omega
          go_wp2
          go_ret
          rw [HFL.out, HQ.out] at hown
          exact ⟨A3, n3, c3, rfl, hown.lower hsz, kp_call HB.out hbl⟩
end Go.Proofs.Ytamkbedbkjndgaa
namespace Go.Proofs.Ytamkbedbkjndgaa
open Go.RowKit Go
set_option linter.unusedVariables false
set_option linter.unusedSimpArgs false
set_option maxRecDepth 100000
def rowsL (X : Nat → Option Addr × Nat × Nat) (bss : Nat → List UInt8) (n : Nat) : List Own1 := (List.range n).map fun r => ((X r).1, (X r).2.1, (X r).2.2, bss r)
theorem rows_pr {w : World} {A : Option Addr} {n c : Nat} {X : Nat → Option Addr × Nat × Nat} {bss : Nat → List UInt8} (h : IsRows w A n c X bss) : PR w A n (rowsL X bss n) ∧ (∀ x ∈ rowsL X bss n, x.2.1 ≤ 9223372036854775807) := by
  refine ⟨⟨by simp [rowsL], fun hn => ?_, fun x hx => ?_⟩, fun x hx => ?_⟩
  · have h0 : 0 < n := by
      rcases Nat.eq_zero_or_pos n with e | e
      · subst e; exact absurd rfl hn
      · exact e
    obtain ⟨b, off, e, hb, hr⟩ := h.rows h0
    refine ⟨b, off, e, hb, fun j u hu => ?_⟩
    have hj : j < n := by
      rcases Nat.lt_or_ge j n with h1 | h1
      · exact h1
      · rw [List.getElem?_eq_none (by simp [rowsL]; exact h1)] at hu; cases hu
    rw [(hr j hj).1]
    simp only [rowsL, List.map_map, List.getElem?_map, List.getElem?_range hj, Option.map_some] at hu
    exact hu
  all_goals
    obtain ⟨r, hr, rfl⟩ := List.mem_map.1 hx
    have hr := List.mem_range.1 hr
    obtain ⟨b, off, e, hb, hh⟩ := h.rows (by omega)
  · exact (hh r hr).2.rb
  · have h1 := (hh r hr).2.le
    have h2 := (hh r hr).2.max
    unfold maxLen at h2
    simp only
    omega
structure PO (w : World) (base : Nat) (ds : List Own1) : Prop where
  o : ∀ x ∈ ds, OwnB w base x.1 x.2.1 x.2.2.1 x.2.2.2
theorem copied_any (A : Option Addr) (n c : Nat) (ds : List Own1) (w : World) (hP : PR w A n ds) (hn : n ≤ 1000000) (hl : ∀ x ∈ ds, x.2.1 ≤ 1000000) :
    Calls Try.prog 19 #[.slice A n c] w fun e w' => ∃ A2 c2 dz, e = .returned (.slice A2 n c2) ∧ PR w' A2 n dz ∧ dz.map txt = ds.map txt ∧ Below w.heap.size w w' := by
  have HP := Lib.hid hP
  have HL := Lib.hid hl
  clear hP hl
  go_enter Try.func19, Try.ntmps19
  go_wp2
  go_loopw [3, 4] (fun v i wl => ∃ (k : Nat) (A2 : Option Addr) (c2 : Nat) (dk : List Own1), v = .slice A2 k c2 ∧ i = .int .i64 (k : Int) ∧ k ≤ n ∧ OwnR wl w.heap.size 22 1 A2 k c2 (dk.map Own1.val) ∧ PO wl w.heap.size dk ∧ Below w.heap.size w wl ∧ Hid (dk.map txt = (ds.take k).map txt)) (fun _ i _ => n - (intOf i).toNat)
  case atStart => exact ⟨0, none, 0, [], rfl, rfl, Nat.zero_le _, OwnR.nil _ _ _ _, ⟨fun x hx => by cases hx⟩, Below.refl _ _, rfl⟩
  case round =>
    obtain ⟨k, A2, c2, dk, rfl, rfl, hk, hown, hpo, hb, HK⟩ := hrel
    by_cases hlt : k < n
    · obtain ⟨x, hx⟩ : ∃ x, ds[k]? = some x := ⟨_, List.getElem?_eq_getElem (by rw [HP.out.len]; exact hlt)⟩
      obtain ⟨b, off, rfl, hbb, hc0⟩ := HP.out.cell hx
      have hc1 := kp_cell hb hc0
      have hm := List.mem_of_getElem? hx
      have HX := Lib.hid hx
      have hx1 := HL.out x hm
      have C := Lib.hid (copy_any x.1 x.2.1 x.2.2.1 x.2.2.2 wr ((HP.out.ok x hm).below hb) (by omega))
      have hsz := hb.size
      have HOW := Lib.hid hown
      have HPO := Lib.hid hpo
      clear hc0 hx hm hown hpo
      go_wp2_with fail
      refine C.out.mono ?_
      rintro e w3 ⟨B1, m1, k1, rfl, ho1, hb3⟩
      have hmax : k + 1 ≤ maxLen := by unfold maxLen; omega
      have hz3 := hb3.size
      have HAL : Hid ((w3.alloc (.cells #[.slice B1 m1 k1] 22)).heap[w3.heap.size]? = some (.cells #[.slice B1 m1 k1] 22)) := has_new _ _
      have HOW3 := Lib.hid ((HOW.out.below hb3 (Nat.le_refl _)).alloc (.cells #[.slice B1 m1 k1] 22))
      have HPO3 : Hid (PO (w3.alloc (.cells #[.slice B1 m1 k1] 22)) w.heap.size (dk ++ [(B1, m1, k1, x.2.2.2)])) := ⟨fun y hy => by
        rcases List.mem_append.1 hy with hy | hy
        · exact ((HPO.out.o y hy).below hb3 (Nat.le_refl _)).alloc _
        · rw [List.mem_singleton.1 hy]; exact (ho1.lower hsz).alloc _⟩
      have H1 : Hid (∀ u ∈ (#[.slice B1 m1 k1] : Array Value).toList, u.oneCell' = true) := by intro u hu; simp at hu; subst hu; rfl
      have HB3 := Lib.hid (kp_alloc (kp_call hb hb3) (.cells #[.slice B1 m1 k1] 22))
      clear ho1 hb3 hb
      go_wp2_with (at_builtin; refine wpList_appL bss_row2 _ _ rfl rfl rfl w.heap.size A2 k c2 _ rfl HOW3.out w3.heap.size 1 1 #[.slice B1 m1 k1] _ rfl HAL.out rfl H1.out hmax (by omega) (by simp; omega) ?_)
      intro V' c' w5 ho5 hg5
      have HF : Hid (OwnR w5 w.heap.size 22 1 V' (k + 1) c' ((dk ++ [(B1, m1, k1, x.2.2.2)]).map Own1.val) ∧ PO w5 w.heap.size (dk ++ [(B1, m1, k1, x.2.2.2)]) ∧ Below w.heap.size w w5 ∧ (dk ++ [(B1, m1, k1, x.2.2.2)]).map txt = (ds.take (k + 1)).map txt) := by
        refine ⟨by rw [List.map_append]; exact ho5, ⟨fun y hy => ?_⟩, HB3.out.grown hg5 (by simp; omega) (fun g hg => (HOW3.out.blk_lt hg).1), ?_⟩
        · exact (HPO3.out.o y hy).kept hg5 ((HPO3.out.o y hy).row.ne HOW3.out (by decide))
        · rw [take_snoc1 HX.out, List.map_append, HK.out, List.map_append]
          rfl
      clear ho5 hg5
      go_wp2
      obtain ⟨r1, r2, r3, r4⟩ := HF.out
      go_roundw
      case rel => exact ⟨k + 1, V', c', _, rfl, by go_num, by omega, r1, r2, r3, r4⟩
      case measure => simp [intOf]; omega
    · obtain rfl : k = n := by omega
      have hT : dk.map txt = ds.map txt := by
        rw [HK.out, List.take_of_length_le (by rw [HP.out.len]; exact Nat.le_refl _)]
      have HT := Lib.hid hT
      clear hT
      go_wp2
      go_ret
      exact ⟨A2, c2, dk, rfl, ⟨by have := hown.len; simpa using this, hown.reads, fun x hx => (hpo.o x hx).rb⟩, HT.out, hb⟩
theorem flat_len2 (ds : List Own1) (n m : Nat) (hn : ds.length ≤ n) (h : ∀ x ∈ ds, x.2.2.2.length ≤ m) : (flat ds).length ≤ n * m := by
  induction ds generalizing n with
  | nil => simp [flat]
  | cons x r ih =>
    obtain ⟨k, rfl⟩ : ∃ k, n = k + 1 := ⟨n - 1, by simp at hn; omega⟩
    have h1 := ih k (by simpa using hn) (fun y hy => h y (List.mem_cons_of_mem _ hy))
    have h2 := h x (by simp)
    have e : flat (x :: r) = x.2.2.2 ++ flat r := rfl
    rw [e, List.length_append, Nat.succ_mul]
    omega
theorem eq_q (x y : Own1) (w : World) (h1 : RB w x.1 x.2.1 x.2.2.2) (h2 : RB w y.1 y.2.1 y.2.2.2) (he : x.2.2.2 = y.2.2.2) : Calls Try.prog 21 #[.slice x.1 x.2.1 x.2.2.1, .slice y.1 y.2.1 y.2.2.1] w fun e w' => e = .returned (.bool true) ∧ w' = w := by
  refine (eq_any x.1 y.1 x.2.1 y.2.1 x.2.2.1 y.2.2.1 _ _ w h1 h2).mono fun e w' h => ⟨?_, h.2.symm⟩
  rw [h.1, he, beq_self_eq_true]
set_option maxHeartbeats 2000000 in
theorem sets_go (A : Option Addr) (n c : Nat) (ds : List Own1) (w : World) (hP : PR w A n ds) (h60 : n ≤ 60) :
    Calls Try.prog 4 #[.slice A n c] w fun e w' => e = .returned (.bool true) ∧ Below w.heap.size w w' := by
  have W := Lib.hid (fun W => works_any W)
  have HP := Lib.hid hP
  clear hP
  go_enter Try.func4, Try.ntmps4
  go_wp2
  go_loop [3] (fun i => ∃ j : Nat, i = .int .i64 (j : Int) ∧ j ≤ n ∧ Hid (∀ r x, r < j → ds[r]? = some x → x.2.1 ≤ 1024)) (fun i => n - (intOf i).toNat)
  case atStart => exact ⟨0, rfl, Nat.zero_le _, fun r x h => absurd h (Nat.not_lt_zero _)⟩
  case round =>
    obtain ⟨j, rfl, hj, HJ⟩ := hrel
    by_cases hlt : j < n
    · obtain ⟨x, hx⟩ : ∃ x, ds[j]? = some x := ⟨_, List.getElem?_eq_getElem (by rw [HP.out.len]; exact hlt)⟩
      obtain ⟨b, off, rfl, hbb, hc0⟩ := HP.out.cell hx
      have HX := Lib.hid hx
      clear hx
      by_cases h10 : x.2.1 ≤ 1024
      · have i1 : ¬ (1024 : Int) < (x.2.1 : Int) := by omega
        have HN : Hid (∀ r x, r < j + 1 → ds[r]? = some x → x.2.1 ≤ 1024) := fun r y hr hy => by
          rcases Nat.lt_or_ge r j with h | h
          · exact HJ.out r y h hy
          · obtain rfl : r = j := by omega
            rw [HX.out] at hy
            cases hy
            exact h10
        go_wp2
        go_round
        case rel => exact ⟨j + 1, by go_num, by omega, HN⟩
        case measure => simp [intOf]; omega
      · have i1 : (1024 : Int) < (x.2.1 : Int) := by omega
        go_wp2_with fail
        refine (W.out _).mono ?_
        rintro e w' ⟨rfl, hb⟩
        go_wp2
        go_ret
        exact ⟨rfl, hb⟩
    · obtain rfl : j = n := by omega
      have HA : Hid (∀ x ∈ ds, x.2.1 ≤ 1024) := fun x hx => by
        obtain ⟨r, hr, rfl⟩ := List.getElem_of_mem hx
        exact HJ.out r _ (by rw [HP.out.len] at hr; exact hr) (List.getElem?_eq_getElem hr)
      have HFL : Hid ((flat ds).length ≤ 140737488355328) := by
        have := flat_len2 ds 60 1024 (by rw [HP.out.len]; exact h60) (fun x hx => by rw [(HP.out.ok x hx).1]; exact HA.out x hx)
        unfold Hid
        omega
      have C := Lib.hid (copied_any A j c ds w HP.out (by omega) (fun x hx => by have := HA.out x hx; omega))
      clear HJ
      go_wp2_with fail
      refine C.out.mono ?_
      rintro e w1 ⟨A2, c2, dz, rfl, hp1, htx, hb1⟩
      have hfz : flat dz = flat ds := by unfold flat; rw [htx]
      have S := Lib.hid (sets_any A2 j c2 dz w1 hp1 (by omega) (by rw [hfz]; exact HFL.out))
      rw [htx] at S
      have HP1 := Lib.hid hp1
      have HTX := Lib.hid htx
      have HB1 := Lib.hid hb1
      clear hp1 htx hb1 hfz
      go_wp2_with fail
      refine S.out.mono ?_
      rintro e w2 ⟨A3, n3, c3, rfl, ho3, hb2⟩
      have R := Lib.hid (rsets_any A j c ds w2 ((HP.out.below HB1.out).below hb2 |> fun h => h) (by omega) HFL.out)
      have HO3 := Lib.hid ho3
      have HB2 := Lib.hid hb2
      clear ho3 hb2
      go_wp2_with fail
      refine R.out.mono ?_
      rintro e w3 ⟨A4, n4, c4, rfl, ho4, hb3⟩
      have E := Lib.hid (eq_any A3 A4 n3 n4 c3 c4 _ _ w3 (HO3.out.below hb3 (Nat.le_refl _)).rb ho4.rb)
      rw [beq_self_eq_true] at E
      have HP3 := Lib.hid ((HP1.out.below HB2.out).below hb3)
      have HPP := Lib.hid (HP.out.below (kp_call (kp_call HB1.out HB2.out) hb3))
      have HBW := Lib.hid (kp_call (kp_call HB1.out HB2.out) hb3)
      clear ho4 hb3
      go_wp2_with fail
      refine E.out.mono ?_
      rintro e w' ⟨rfl, rfl⟩
      go_wp2
      go_loopw [6] (fun i wl => ∃ k : Nat, i = .int .i64 (k : Int) ∧ k ≤ j ∧ ∃ q, wl = w3.drewN q) (fun i _ => j - (intOf i).toNat)
      case atStart => exact ⟨0, rfl, Nat.zero_le _, 0, rfl⟩
      case round =>
        obtain ⟨k, rfl, hk, q, rfl⟩ := hrel
        by_cases hkj : k < j
        · obtain ⟨x, hx⟩ : ∃ x, ds[k]? = some x := ⟨_, List.getElem?_eq_getElem (by rw [HP.out.len]; exact hkj)⟩
          obtain ⟨y, hy⟩ : ∃ y, dz[k]? = some y := ⟨_, List.getElem?_eq_getElem (by rw [HP1.out.len]; exact hkj)⟩
          have hxy : y.2.2.2 = x.2.2.2 := by
            have := congrArg (fun l => l[k]?) HTX.out
            simp only [List.getElem?_map, hx, hy, Option.map_some, Option.some.injEq] at this
            exact this
          obtain ⟨b, off, e1, hbb, c1⟩ := HPP.out.cell hx
          obtain ⟨b2, off2, e2, hbb2, c2x⟩ := HP3.out.cell hy
          have EE := Lib.hid (fun t => eq_q y x ((w3.drewN q).drewN t) (((HP3.out.ok y (List.mem_of_getElem? hy)).drewN q).drewN t) (((HPP.out.ok x (List.mem_of_getElem? hx)).drewN q).drewN t) hxy)
          subst e1
          subst e2
          clear hx hy hxy
          have c1' : (w3.drewN q).cell? ⟨b, off + k, none⟩ = some (.slice x.1 x.2.1 x.2.2.1) := c1
          have c2' : (w3.drewN q).cell? ⟨b2, off2 + k, none⟩ = some (.slice y.1 y.2.1 y.2.2.1) := c2x
          clear c1 c2x
          obtain ⟨wq, hwq⟩ : ∃ wq, w3.drewN q = wq := ⟨_, rfl⟩
          rw [hwq] at c1' c2' EE
          have HW := Lib.hid hwq
          rw [hwq]
          clear hwq
          have i1 : (k : Int) < (j : Int) := by omega
          go_wp2_with fail
          go_quiet ((go_at_call 21; exact Calls.quiet_of_same (EE.out _)))
          go_wp2
          go_roundw
          case rel => exact ⟨k + 1, by go_num, by omega, _, by rw [← HW.out]; exact World.drewN_drewN _ _ _⟩
          case measure => simp [intOf]; omega
        · obtain rfl : k = j := by omega
          go_wp2_with fail
          refine (W.out _).mono ?_
          rintro e w' ⟨rfl, hb⟩
          go_wp2
          go_ret
          exact ⟨rfl, kp_call (kp_drewN HBW.out _) hb⟩
theorem sets_row (A : Option Addr) (n c : Nat) (X : Nat → Option Addr × Nat × Nat) (bss : Nat → List UInt8) (w : World) (h : IsRows w A n c X bss) :
    Calls Try.prog 4 #[.slice A n c] w fun e w' => e = .returned (.bool true) ∧ Below w.heap.size w w' := by
  by_cases h60 : n ≤ 60
  · exact sets_go A n c _ w (rows_pr h).1 h60
  · have W := Lib.hid (works_any w)
    have hl := h.lim
    have i1 : (60 : Int) < (n : Int) := by omega
    clear h
    go_enter Try.func4, Try.ntmps4
    go_wp2_with fail
    refine W.out.mono ?_
    rintro e w' ⟨rfl, hb⟩
    go_wp2
    go_ret
    exact ⟨rfl, hb⟩
end Go.Proofs.Ytamkbedbkjndgaa

/-
  cert: the statement on names of certificates.
-/
import Derived.Test.YtomolfdcdmncoaaCfQ
import Derived.Test.YtomolfdcdmncoaaMyC
namespace Go.Proofs.Ytomolfdcdmncoaa
open Go.RowKit Go
set_option linter.unusedVariables false
set_option linter.unusedSimpArgs false
set_option maxRecDepth 100000

def oneB (a : List UInt8) : List UInt8 := wrQ 48 (wrQ 4 a)
def twoB (a b : List UInt8) : List UInt8 := wrQ 48 (wrQ 12 b ++ wrQ 4 a)
theorem oneB_len (a : List UInt8) (h : a.length ≤ 300) : (wrQ 4 a).length ≤ 306 ∧ (oneB a).length ≤ 312 := by
  have h1 := wrQ_len 4 a (by omega)
  have h2 := wrQ_len 48 (wrQ 4 a) (by omega)
  unfold oneB; omega
theorem twoB_len (a b : List UInt8) (h : a.length ≤ 300) (h9 : b.length ≤ 300) : (wrQ 12 b ++ wrQ 4 a).length ≤ 612 ∧ (twoB a b).length ≤ 618 := by
  have h1 := wrQ_len 4 a (by omega)
  have h3 := wrQ_len 12 b (by omega)
  have h2 := wrQ_len 48 (wrQ 12 b ++ wrQ 4 a) (by rw [List.length_append]; omega)
  rw [List.length_append] at h2 ⊢
  unfold twoB; omega
def nmL (k : KC) (a b : List UInt8) : List (List UInt8) := (k.L.set 3 (oneB a)).set 5 (twoB a b)
theorem nm_all (k : KC) (a b : List UInt8) (ha : a.length ≤ 300) (hb : b.length ≤ 300) : allQ (nmL k a b).flatten = some [E0, E1 k.sb, E2, (oneB a, wrQ 4 a), E4 k.f k.t, (twoB a b, wrQ 12 b ++ wrQ 4 a), E6 k.nb k.e] := by
  have h4 := nM_len k.nb
  have h5 := serM_len k.sb
  have d := spanB_len (fM k.f) (tM k.f k.t)
  have g := spkB_len (nM k.nb) (k.e % 8589934592) (by omega)
  have i1 := oneB_len a ha
  have i2 := twoB_len a b ha hb
  unfold E0 E1 E2 E4 E6 nmL KC.L elL elP oneB twoB
  simp only [List.map_cons, List.map_nil, List.set_cons_succ, List.set_cons_zero, List.flatten_cons, List.flatten_nil]
  exact sall (by decide) (by decide) (sall (by decide) (by omega) (sall (by decide) (by decide) (sall (by decide) (by omega) (sall (by decide) (by omega) (sall (by decide) (by omega) (sall (by decide) (by omega) all_nil))))))
theorem nm_len (k : KC) (a b : List UInt8) (ha : a.length ≤ 300) (hb : b.length ≤ 300) : (nmL k a b).flatten.length ≤ 3000 := by
  have h1 := set_len k.L 3 (oneB a)
  have h2 := k.Llen
  have h3 := set_len (k.L.set 3 (oneB a)) 5 (twoB a b)
  have i1 := oneB_len a ha
  have i2 := twoB_len a b ha hb
  unfold nmL
  omega
def nmC (k : KC) (a b : List UInt8) : List UInt8 := certB (wrQ 48 (nmL k a b).flatten) []
theorem nm_chk (k : KC) (a b : List UInt8) (ha : a.length ≤ 300) (hb : b.length ≤ 300) : ∀ p ∈ [E0, E1 k.sb, E2, (oneB a, wrQ 4 a), E4 k.f k.t, (twoB a b, wrQ 12 b ++ wrQ 4 a), E6 k.nb k.e], chk 13 p.1 p.2 = 0 := by
  refine all7 (p := fun p => chk 13 p.1 p.2 = 0) ck0 (ck1 _) ck2 ?_ (ck4 _ _) ?_ (ck6 _ _) (fun x h => by cases h)
  · refine chk_in 12 48 (wrQ 4 a) [(wrQ 4 a, a)] (all1 (by decide) (by omega)) ?_
    intro q hq
    rw [List.mem_singleton] at hq
    subst hq
    exact chk_flat 12 4 a (by decide)
  · refine chk_in 12 48 (wrQ 12 b ++ wrQ 4 a) [(wrQ 12 b, b), (wrQ 4 a, a)] (allS (by decide) (by omega) (all1 (by decide) (by omega))) ?_
    intro q hq
    simp only [List.mem_cons, List.not_mem_nil, or_false] at hq
    rcases hq with rfl | rfl
    · exact chk_flat 12 12 b (by decide)
    · exact chk_flat 12 4 a (by decide)
theorem nm_yes (k : KC) (a b : List UInt8) (ha : a.length ≤ 300) (hb : b.length ≤ 300) : ∃ c, certQ (nmC k a b) = .inr c ∧ c.iss = oneB a ∧ c.sub = twoB a b := by
  have ht : tbQ (wrQ 48 (nmL k a b).flatten, (nmL k a b).flatten) = some ⟨[], [], oneB a, twoB a b, serM k.sb, fM k.f, tM k.f k.t, nM k.nb, k.e % 8589934592, [], false, -1, -1, true⟩ := by
    rw [tb_run _ _ _ _ _ _ _ _ _ (nm_all k a b ha hb), rd0]
    simp only [Option.bind_some]
    rw [rd1, rd2, show anQ (oneB a, wrQ 4 a) = some (oneB a) from an_wr _, rd4, show anQ (twoB a b, wrQ 12 b ++ wrQ 4 a) = some (twoB a b) from an_wr _, rd6]
    simp only [Option.bind_some, exsQ]
    rfl
  exact ⟨_, cert_yes _ _ _ _ (nm_all k a b ha hb) (nm_chk k a b ha hb) (by have := nm_len k a b ha hb; omega) (by simp) ht, rfl, rfl⟩
def tgC (k : KC) (t : UInt8) (a : List UInt8) : List UInt8 := certB (wrQ 48 (k.L.set 3 (wrQ t a)).flatten) (k.gb.take 100)
theorem tg_len (k : KC) (t : UInt8) (a : List UInt8) (ha : a.length ≤ 300) : (k.L.set 3 (wrQ t a)).flatten.length ≤ 2400 := by
  have h1 := set_len k.L 3 (wrQ t a)
  have h2 := k.Llen
  have h3 := wrQ_len t a (by omega)
  omega
theorem tg_split31 (t : UInt8) (a rest : List UInt8) (h : t.toNat % 32 = 31) : splitQ (wrQ t a ++ rest) = none := by
  cases hs : splitQ (wrQ t a ++ rest) with
  | none => rfl
  | some p =>
    exfalso
    obtain ⟨s, e⟩ := p
    have h1 := splitQ_tag hs
    have h2 : (wrQ t a ++ rest).getD 0 0 = t := by unfold wrQ; split <;> rfl
    rw [h2] at h1
    exact h1 h
theorem wr_ne (t : UInt8) (a rest : List UInt8) : wrQ t a ++ rest ≠ [] := by unfold wrQ; split <;> simp
/-- A name that is no element of elements is refused. -/
theorem tg_no (k : KC) (t : UInt8) (a : List UInt8) (ha : a.length ≤ 300) (ht : t.toNat / 32 % 2 = 0) : certQ (tgC k t a) = .inl 9 := by
  have h4 := nM_len k.nb
  have h5 := serM_len k.sb
  have d := spanB_len (fM k.f) (tM k.f k.t)
  have g := spkB_len (nM k.nb) (k.e % 8589934592) (by omega)
  have e3 : ∀ s : List UInt8, (inM (s.take 200)).length ≤ 300 := fun s => in_len _ (take_len s 200)
  have h2 := in_len _ (take_len k.ss.data.toList 200)
  have i2 := e3 k.ss.data.toList
  have hbl := tg_len k t a ha
  have hgl := take_len k.gb 100
  have hsplit : (k.L.set 3 (wrQ t a)).flatten = wrQ 160 [2, 1, 2] ++ (wrQ 2 (serM k.sb) ++ (wrQ 48 sgnI ++ (wrQ t a ++ (wrQ 48 (spanB (fM k.f) (tM k.f k.t)) ++ (wrQ 48 (inM (k.ss.data.toList.take 200)) ++ (wrQ 48 (spkB (nM k.nb) (k.e % 8589934592)) ++ [])))))) := by
    unfold KC.L elL elP
    simp only [List.map_cons, List.map_nil, List.set_cons_succ, List.set_cons_zero, List.flatten_cons, List.flatten_nil]
    rw [nameB_is]
    rfl
  by_cases h31 : t.toNat % 32 = 31
  · -- no element at all
    have hnone : allQ (k.L.set 3 (wrQ t a)).flatten = none := by
      rw [hsplit, allQ_wr9 160 (by decide) _ _ (by decide), allQ_wr9 2 (by decide) _ _ (by omega), allQ_wr9 48 (by decide) _ _ (by decide), allQ_none (wr_ne t a _) (tg_split31 t a _ h31)]
      rfl
    have hw := wrQ_len 48 (k.L.set 3 (wrQ t a)).flatten (by omega)
    have hw3 := wrQ_len 3 (0 :: k.gb.take 100) (by simp only [List.length_cons]; omega)
    simp only [List.length_cons] at hw3
    have hcl : (wrQ 48 (k.L.set 3 (wrQ t a)).flatten ++ (sgnB ++ wrQ 3 (0 :: k.gb.take 100))).length < 4294967296 := by
      simp only [List.length_append]
      have : sgnB.length = 15 := rfl
      omega
    have hne : (k.L.set 3 (wrQ t a)).flatten ≠ [] := by rw [hsplit]; exact wr_ne _ _ _
    have hc : checkQ (tgC k t a) = 9 := by
      unfold tgC certB
      rw [check_wr9 48 (by decide) _ hcl]
      have hall : allQ (wrQ 48 (k.L.set 3 (wrQ t a)).flatten ++ (sgnB ++ wrQ 3 (0 :: k.gb.take 100))) = some [(wrQ 48 (k.L.set 3 (wrQ t a)).flatten, (k.L.set 3 (wrQ t a)).flatten), (wrQ 48 sgnI, sgnI), (wrQ 3 (0 :: k.gb.take 100), 0 :: k.gb.take 100)] := by
        rw [show sgnB = wrQ 48 sgnI from sgn_wr]
        exact allS (by decide) (by omega) (allS (by decide) (by decide) (all1 (by decide) (by simp only [List.length_cons]; omega)))
      have h9 : chk 14 (wrQ 48 (k.L.set 3 (wrQ t a)).flatten) (k.L.set 3 (wrQ t a)).flatten = 9 := by
        have hstep : ∀ raw body : List UInt8, chk 14 raw body = if nth raw 0 / 32 % 2 = 0 ∨ body = [] then 0 else match allQ body with | none => 9 | some l => firstN (l.map fun p : El => chk 13 p.1 p.2) := fun _ _ => rfl
        rw [hstep, if_neg (by
          rintro (h | h)
          · rw [nth_wr9] at h; revert h; decide
          · exact hne h), hnone]
      have hstep : ∀ raw body : List UInt8, chk 15 raw body = if nth raw 0 / 32 % 2 = 0 ∨ body = [] then 0 else match allQ body with | none => 9 | some l => firstN (l.map fun p : El => chk 14 p.1 p.2) := fun _ _ => rfl
      rw [hstep, if_neg (by
        rintro (h | h)
        · rw [nth_wr9] at h; revert h; decide
        · exact wr_ne _ _ _ h), hall]
      simp only [List.map_cons, firstN]
      rw [h9]
      rfl
    have hlen := cert_len (wrQ 48 (k.L.set 3 (wrQ t a)).flatten) (k.gb.take 100) (by omega) (by omega)
    unfold certQ
    rw [if_neg (by unfold tgC; omega), if_pos (by rw [hc]; decide), hc]
  · have hall : allQ (k.L.set 3 (wrQ t a)).flatten = some [E0, E1 k.sb, E2, (wrQ t a, a), E4 k.f k.t, E3 k.ss.data.toList, E6 k.nb k.e] := by
      rw [hsplit, E3_is]
      unfold E0 E1 E2 E4 E6
      exact sall (by decide) (by decide) (sall (by decide) (by omega) (sall (by decide) (by decide) (sall h31 (by omega) (sall (by decide) (by omega) (sall (by decide) (by omega) (sall (by decide) (by omega) all_nil))))))
    refine cert_no _ _ _ hall (all7 (p := fun p => chk 13 p.1 p.2 = 0) ck0 (ck1 _) ck2 (chk_flat 13 t a ht) (ck4 _ _) (ck3 _) (ck6 _ _) (fun x h => by cases h)) (by omega) (by omega) ?_
    rw [tb_run _ _ _ _ _ _ _ _ _ hall, rd0]
    simp only [Option.bind_some]
    rw [rd1, rd2]
    simp only [Option.bind_some]
    have h : anQ (wrQ t a, a) = none := by
      unfold anQ
      rw [tg_wr, gd_no (by intro h; rw [h] at ht; revert ht; decide)]
      rfl
    rw [h]
    rfl
theorem er_no {bs : List UInt8} {er : Nat} (h : certQ bs = .inl er) : erQ bs = er := by unfold erQ; rw [h]
theorem er_yes {bs : List UInt8} {c : Ce} (h : certQ bs = .inr c) : erQ bs = 0 := by unfold erQ; rw [h]
end Go.Proofs.Ytomolfdcdmncoaa

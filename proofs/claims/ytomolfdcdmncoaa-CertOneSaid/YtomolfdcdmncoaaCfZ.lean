/-
  cert: the methods that the statement on methods makes (plain words).
-/
import Derived.Test.YtomolfdcdmncoaaCfY
import Derived.Test.YtomolfdcdmncoaaCfR
namespace Go.Proofs.Ytomolfdcdmncoaa
open Go.RowKit Go
set_option linter.unusedVariables false
set_option linter.unusedSimpArgs false
set_option maxRecDepth 100000
/-- Bytes that serve as a method's identifier. -/
def mtQ (l : List UInt8) : List UInt8 := if l.length = 0 ∨ 300 < l.length then [42, 3] else l
theorem mt_fits (l : List UInt8) : (mtQ l).length ≤ 300 := by
  unfold mtQ
  split
  · decide
  · omega
theorem mt_oid (xs : List Nat) (hw : ∀ x ∈ xs, x < 18446744073709551616) : ∃ a, oidQ (mtQ (putoidQ xs)) = some a := by
  unfold mtQ
  split
  · have h := oid_put (xs := [1, 2, 3]) (by intro x hx; simp only [List.mem_cons, List.not_mem_nil, or_false] at hx; omega) (by decide +kernel)
    have e : putoidQ [1, 2, 3] = [42, 3] := by decide +kernel
    rw [e] at h
    exact ⟨_, h⟩
  · rename_i hc
    exact ⟨xs, oid_put hw (fun e => hc (.inl (by rw [e]; rfl)))⟩
def meO (k : Nat) : List Nat := [1, 2, 840, 113549, 1, 1, k]
def sgO : List UInt8 := [42, 134, 72, 134, 247, 13, 1, 1, 11]
def rsO : List UInt8 := [42, 134, 72, 134, 247, 13, 1, 1, 1]
theorem sg_is : putoidQ (meO 11) = sgO := by decide +kernel
theorem rs_is : putoidQ (meO 1) = rsO := by decide +kernel
theorem me_oid (k : Nat) (hk : k < 100) (bs : List UInt8) (h : putoidQ (meO k) = bs) (hb : bs ≠ []) : oidQ bs = some (meO k) := by
  have h9 := oid_put (xs := meO k) (by intro x hx; simp only [meO, List.mem_cons, List.not_mem_nil, or_false] at hx; omega) (by rw [h]; exact hb)
  rwa [h] at h9
theorem sg_oid : oidQ sgO = some (meO 11) := me_oid 11 (by omega) _ sg_is (by decide)
theorem rs_oid : oidQ rsO = some (meO 1) := me_oid 1 (by omega) _ rs_is (by decide)
def algI (oid : List UInt8) : List UInt8 := wrQ 6 oid ++ [5, 0]
theorem five_is : ([5, 0] : List UInt8) = wrQ 5 [] := by decide +kernel
theorem algI_len (oid : List UInt8) (h : oid.length ≤ 300) : (algI oid).length ≤ 310 := by
  have := wrQ_len 6 oid (by omega)
  unfold algI
  rw [List.length_append]
  simp only [List.length_cons, List.length_nil]
  omega
theorem algI_all (oid : List UInt8) (h : oid.length ≤ 300) : allQ (algI oid) = some [(wrQ 6 oid, oid), (wrQ 5 [], [])] := by
  unfold algI
  rw [five_is]
  exact allS (by decide) (by omega) (all1 (by decide) (by decide))
theorem me_alg (oid : List UInt8) (a : List Nat) (k : Nat) (h : oidQ oid = some a) (hl : oid.length ≤ 300) : meQ (wrQ 48 (algI oid), algI oid) k = if a = meO k then some () else none := by
  unfold meQ
  rw [wi_wr 48 _ 48 rfl, algI_all oid hl]
  simp only [Option.bind_some, nxQ]
  rw [od_wr a oid h]
  simp only [Option.bind_some]
  by_cases hk : a = meO k
  · rw [if_pos hk, gd_yes (show a = [1, 2, 840, 113549, 1, 1, k] from hk)]
    simp only [Option.bind_some]
    rw [tg_wr, gd_yes ⟨show (5 : UInt8).toNat = 5 from rfl, trivial⟩]
    rfl
  · rw [if_neg hk, gd_no (show ¬ a = [1, 2, 840, 113549, 1, 1, k] from hk)]
    rfl
/-- A method's element is the one of signing, or it is not. -/
theorem me_sg (oid : List UInt8) (h : ∃ a, oidQ oid = some a) (hl : oid.length ≤ 300) : meQ (wrQ 48 (algI oid), algI oid) 11 = if oid = sgO then some () else none := by
  obtain ⟨a, ha⟩ := h
  rw [me_alg oid a 11 ha hl]
  by_cases hc : oid = sgO
  · subst hc
    rw [sg_oid] at ha
    cases ha
    rw [if_pos rfl, if_pos rfl]
  · rw [if_neg hc, if_neg]
    rintro rfl
    exact hc (oid_inj ha sg_oid)
theorem me_rs (oid : List UInt8) (h : ∃ a, oidQ oid = some a) (hl : oid.length ≤ 300) : meQ (wrQ 48 (algI oid), algI oid) 1 = if oid = rsO then some () else none := by
  obtain ⟨a, ha⟩ := h
  rw [me_alg oid a 1 ha hl]
  by_cases hc : oid = rsO
  · subst hc
    rw [rs_oid] at ha
    cases ha
    rw [if_pos rfl, if_pos rfl]
  · rw [if_neg hc, if_neg]
    rintro rfl
    exact hc (oid_inj ha rs_oid)
/-- The bytes tell whether it is the one of signing. -/
theorem alg_sgn (oid : List UInt8) (hl : oid.length ≤ 300) : wrQ 48 (algI oid) = wrQ 48 sgnI ↔ oid = sgO := by
  have e : algI sgO = sgnI := by decide +kernel
  constructor
  · intro h
    have h1 := si_wr 48 (algI oid) (by decide) (by have := algI_len oid hl; omega)
    have h2 := si_wr 48 sgnI (by decide) (by decide)
    rw [h, h2] at h1
    have h3 : sgnI = algI oid := congrArg Prod.snd (Option.some.inj h1)
    have h4 := algI_all oid hl
    rw [← h3, ← e, algI_all sgO (by decide)] at h4
    have h5 := Option.some.inj h4
    simp only [List.cons.injEq, Prod.mk.injEq, and_true] at h5
    exact h5.2.symm
  · rintro rfl
    rw [e]
/-! ### The first certificate: another method within -/
theorem me1_all (k : KC) (oid : List UInt8) (hl : oid.length ≤ 300) : allQ (k.L.set 2 (wrQ 48 (algI oid))).flatten = some [E0, E1 k.sb, (wrQ 48 (algI oid), algI oid), E3 k.is.data.toList, E4 k.f k.t, E3 k.ss.data.toList, E6 k.nb k.e] := by
  have h2 := in_len _ (take_len k.is.data.toList 200)
  have h3 := in_len _ (take_len k.ss.data.toList 200)
  have h4 := nM_len k.nb
  have h5 := serM_len k.sb
  have h6 := algI_len oid hl
  have d := spanB_len (fM k.f) (tM k.f k.t)
  have g := spkB_len (nM k.nb) (k.e % 8589934592) (by omega)
  have e3 : ∀ s : List UInt8, (inM (s.take 200)).length ≤ 300 := fun s => in_len _ (take_len s 200)
  have i1 := e3 k.is.data.toList
  have i2 := e3 k.ss.data.toList
  rw [E3_is, E3_is]
  unfold E0 E1 E4 E6 KC.L elL elP
  simp only [List.map_cons, List.map_nil, List.set_cons_succ, List.set_cons_zero, List.flatten_cons, List.flatten_nil]
  rw [nameB_is, nameB_is]
  exact sall (by decide) (by decide) (sall (by decide) (by omega) (sall (by decide) (by omega) (sall (by decide) (by omega) (sall (by decide) (by omega) (sall (by decide) (by omega) (sall (by decide) (by omega) all_nil))))))
theorem me1_len (k : KC) (oid : List UInt8) (hl : oid.length ≤ 300) : (k.L.set 2 (wrQ 48 (algI oid))).flatten.length ≤ 2400 := by
  have h1 := set_len k.L 2 (wrQ 48 (algI oid))
  have h2 := k.Llen
  have h3 := algI_len oid hl
  have h4 := wrQ_len 48 (algI oid) (by omega)
  omega
theorem chk_alg (n : Nat) (oid : List UInt8) (hl : oid.length ≤ 300) : chk (n + 1) (wrQ 48 (algI oid)) (algI oid) = 0 := by
  refine chk_in n 48 (algI oid) _ (algI_all oid hl) ?_
  intro q hq
  simp only [List.mem_cons, List.not_mem_nil, or_false] at hq
  rcases hq with rfl | rfl
  · exact chk_flat n 6 oid (by decide)
  · exact chk_flat n 5 [] (by decide)
theorem me1_chk (k : KC) (oid : List UInt8) (hl : oid.length ≤ 300) : ∀ p ∈ [E0, E1 k.sb, (wrQ 48 (algI oid), algI oid), E3 k.is.data.toList, E4 k.f k.t, E3 k.ss.data.toList, E6 k.nb k.e], chk 13 p.1 p.2 = 0 :=
  all7 (p := fun p => chk 13 p.1 p.2 = 0) ck0 (ck1 _) (chk_alg 12 oid hl) (ck3 _) (ck4 _ _) (ck3 _) (ck6 _ _) (fun x h => by cases h)
def me1C (k : KC) (oid : List UInt8) : List UInt8 := certB (wrQ 48 (k.L.set 2 (wrQ 48 (algI oid))).flatten) (k.gb.take 100)
theorem me1_no (k : KC) (oid : List UInt8) (h : ∃ a, oidQ oid = some a) (hl : oid.length ≤ 300) (hn : oid ≠ sgO) : certQ (me1C k oid) = .inl 9 := by
  refine cert_no _ _ _ (me1_all k oid hl) (me1_chk k oid hl) (by have := me1_len k oid hl; omega) (by have := take_len k.gb 100; omega) ?_
  rw [tb_run _ _ _ _ _ _ _ _ _ (me1_all k oid hl), rd0]
  simp only [Option.bind_some]
  rw [rd1]
  simp only [Option.bind_some]
  rw [me_sg oid h hl, if_neg hn]
  rfl
theorem me1_yes (k : KC) (oid : List UInt8) (h : ∃ a, oidQ oid = some a) (hl : oid.length ≤ 300) (hn : oid = sgO) : ∃ c, certQ (me1C k oid) = .inr c := by
  have ht : tbQ (wrQ 48 (k.L.set 2 (wrQ 48 (algI oid))).flatten, (k.L.set 2 (wrQ 48 (algI oid))).flatten) = some (ceW k xt0) := by
    rw [tb_run _ _ _ _ _ _ _ _ _ (me1_all k oid hl), rd0]
    simp only [Option.bind_some]
    rw [rd1]
    simp only [Option.bind_some]
    rw [me_sg oid h hl, if_pos hn]
    simp only [Option.bind_some]
    rw [rd3, rd4, rd3, rd6]
    simp only [Option.bind_some, exsQ]
    rfl
  have h1 := me1_len k oid hl
  have h2 := take_len k.gb 100
  unfold me1C
  generalize ceW k xt0 = C at *
  exact ⟨_, cert_yes _ _ _ C (me1_all k oid hl) (me1_chk k oid hl) (by omega) (by omega) ht⟩
end Go.Proofs.Ytomolfdcdmncoaa

/-
  cert: the methods that the statement on methods makes: another one without, another one in the key (plain words).
-/
import Derived.Test.YtomolfdcdmncoaaCfZ
namespace Go.Proofs.Ytomolfdcdmncoaa
open Go.RowKit Go
set_option linter.unusedVariables false
set_option linter.unusedSimpArgs false
set_option maxRecDepth 100000
/-! ### The second certificate: another method behind the signed part -/
def me2C (k : KC) (oid : List UInt8) : List UInt8 := wrQ 48 (wrQ 48 k.L.flatten ++ (wrQ 48 (algI oid) ++ wrQ 3 [0]))
theorem me2_yes (k : KC) (oid : List UInt8) (hn : oid = sgO) : ∃ c, certQ (me2C k oid) = .inr c := by
  have e : me2C k oid = certB (wrQ 48 k.L.flatten) [] := by
    unfold me2C certB
    rw [sgn_wr, hn, show algI sgO = [6, 9, 42, 134, 72, 134, 247, 13, 1, 1, 11, 5, 0] by decide +kernel]
  have ha := wx_all k [] (fun x hx => by cases hx) (by simp [exsF]) [] rfl
  rw [List.append_nil] at ha
  have ht : tbQ (wrQ 48 k.L.flatten, k.L.flatten) = some (ceW k xt0) := by
    rw [tb_run _ _ _ _ _ _ _ _ _ ha, rd0]
    simp only [Option.bind_some]
    rw [rd1, rd2, rd3, rd4, rd3, rd6]
    simp only [Option.bind_some]
    rfl
  have h1 := k.Llen2
  rw [e]
  generalize ceW k xt0 = C at *
  exact ⟨_, cert_yes _ _ _ C ha (wx_chk k [] (fun x hx => by cases hx) (by simp [exsF])) (by omega) (by simp) ht⟩
theorem me2_no (k : KC) (oid : List UInt8) (h : ∃ a, oidQ oid = some a) (hl : oid.length ≤ 300) (hn : oid ≠ sgO) : certQ (me2C k oid) = .inl 9 := by
  have ha := wx_all k [] (fun x hx => by cases hx) (by simp [exsF]) [] rfl
  rw [List.append_nil] at ha
  have hc := wx_chk k [] (fun x hx => by cases hx) (by simp [exsF])
  have h1 := k.Llen2
  have h2 := algI_len oid hl
  have w1 := wrQ_len 48 k.L.flatten (by omega)
  have w2 := wrQ_len 48 (algI oid) (by omega)
  have w3 : (wrQ 3 [0]).length = 3 := by decide +kernel
  have hB : (wrQ 48 k.L.flatten ++ (wrQ 48 (algI oid) ++ wrQ 3 [0])).length ≤ 2500 := by simp only [List.length_append]; omega
  have w4 := wrQ_len 48 (wrQ 48 k.L.flatten ++ (wrQ 48 (algI oid) ++ wrQ 3 [0])) (by omega)
  have hA : allQ (wrQ 48 k.L.flatten ++ (wrQ 48 (algI oid) ++ wrQ 3 [0])) = some [(wrQ 48 k.L.flatten, k.L.flatten), (wrQ 48 (algI oid), algI oid), (wrQ 3 [0], [0])] :=
    allS (by decide) (by omega) (allS (by decide) (by omega) (all1 (by decide) (by decide)))
  have hK : checkQ (me2C k oid) = 0 := by
    unfold me2C
    rw [check_wr9 48 (by decide) _ (by omega)]
    refine chk_in 14 48 _ _ hA ?_
    intro q hq
    simp only [List.mem_cons, List.not_mem_nil, or_false] at hq
    rcases hq with rfl | rfl | rfl
    · exact chk_in 13 48 _ _ ha hc
    · exact chk_alg 13 oid hl
    · exact chk_flat 14 3 [0] (by decide)
  have hW : whQ (me2C k oid) = none := by
    unfold whQ me2C
    rw [si_wr 48 _ (by decide) (by omega)]
    simp only [Option.bind_some]
    rw [wi_wr 48 _ 48 rfl, hA]
    simp only [Option.bind_some, nxQ]
    rw [me_sg oid h hl, if_neg hn]
    cases tbQ (wrQ 48 k.L.flatten, k.L.flatten) <;> rfl
  unfold certQ
  rw [if_neg (by unfold me2C; omega), if_neg (by rw [hK]; decide), hW]
/-! ### The third certificate: another method in the key -/
def kyB : List UInt8 := 0 :: wrQ 48 [2, 1, 5, 2, 1, 3]
def spO (oid : List UInt8) : List UInt8 := wrQ 48 (algI oid) ++ wrQ 3 kyB
theorem spO_len (oid : List UInt8) (hl : oid.length ≤ 300) : (spO oid).length ≤ 340 := by
  have h2 := algI_len oid hl
  have w2 := wrQ_len 48 (algI oid) (by omega)
  have w3 : (wrQ 3 kyB).length = 11 := by decide +kernel
  unfold spO
  rw [List.length_append]
  omega
theorem spO_all (oid : List UInt8) (hl : oid.length ≤ 300) : allQ (spO oid) = some [(wrQ 48 (algI oid), algI oid), (wrQ 3 kyB, kyB)] := by
  have h2 := algI_len oid hl
  exact allS (by decide) (by omega) (all1 (by decide) (by decide +kernel))
theorem ke_kyB : (wbQ (wrQ 3 kyB, kyB)).bind (fun b => (siQ b).bind fun y =>
  (wiQ y 48).bind fun m => (enQ ([] : List El)).bind fun _ => (nxQ m).bind fun r => (nuQ r.1).bind fun n => (nxQ r.2).bind fun s => (smQ s.1 8589934592).bind fun e =>
  (enQ s.2).bind fun _ => some (n, e)) = some ([5], 3) := by decide +kernel
theorem ke_oid (oid : List UInt8) (h : ∃ a, oidQ oid = some a) (hl : oid.length ≤ 300) : keQ (wrQ 48 (spO oid), spO oid) = if oid = rsO then some ([5], 3) else none := by
  unfold keQ
  rw [wi_wr 48 _ 48 rfl, spO_all oid hl]
  simp only [Option.bind_some, nxQ]
  rw [me_rs oid h hl]
  split
  · exact ke_kyB
  · rfl
theorem me3_all (k : KC) (oid : List UInt8) (hl : oid.length ≤ 300) : allQ (k.L.set 6 (wrQ 48 (spO oid))).flatten = some [E0, E1 k.sb, E2, E3 k.is.data.toList, E4 k.f k.t, E3 k.ss.data.toList, (wrQ 48 (spO oid), spO oid)] := by
  have h2 := in_len _ (take_len k.is.data.toList 200)
  have h3 := in_len _ (take_len k.ss.data.toList 200)
  have h5 := serM_len k.sb
  have h6 := spO_len oid hl
  have d := spanB_len (fM k.f) (tM k.f k.t)
  have e3 : ∀ s : List UInt8, (inM (s.take 200)).length ≤ 300 := fun s => in_len _ (take_len s 200)
  have i1 := e3 k.is.data.toList
  have i2 := e3 k.ss.data.toList
  rw [E3_is, E3_is]
  unfold E0 E1 E2 E4 KC.L elL elP
  simp only [List.map_cons, List.map_nil, List.set_cons_succ, List.set_cons_zero, List.flatten_cons, List.flatten_nil]
  rw [nameB_is, nameB_is]
  exact sall (by decide) (by decide) (sall (by decide) (by omega) (sall (by decide) (by decide) (sall (by decide) (by omega) (sall (by decide) (by omega) (sall (by decide) (by omega) (sall (by decide) (by omega) all_nil))))))
theorem me3_len (k : KC) (oid : List UInt8) (hl : oid.length ≤ 300) : (k.L.set 6 (wrQ 48 (spO oid))).flatten.length ≤ 2400 := by
  have h1 := set_len k.L 6 (wrQ 48 (spO oid))
  have h2 := k.Llen
  have h3 := spO_len oid hl
  have h4 := wrQ_len 48 (spO oid) (by omega)
  omega
theorem chk_spO (oid : List UInt8) (hl : oid.length ≤ 300) : chk 13 (wrQ 48 (spO oid)) (spO oid) = 0 := by
  refine chk_in 12 48 (spO oid) _ (spO_all oid hl) ?_
  intro q hq
  simp only [List.mem_cons, List.not_mem_nil, or_false] at hq
  rcases hq with rfl | rfl
  · exact chk_alg 11 oid hl
  · exact chk_flat 12 3 kyB (by decide)
theorem me3_chk (k : KC) (oid : List UInt8) (hl : oid.length ≤ 300) : ∀ p ∈ [E0, E1 k.sb, E2, E3 k.is.data.toList, E4 k.f k.t, E3 k.ss.data.toList, (wrQ 48 (spO oid), spO oid)], chk 13 p.1 p.2 = 0 :=
  all7 (p := fun p => chk 13 p.1 p.2 = 0) ck0 (ck1 _) ck2 (ck3 _) (ck4 _ _) (ck3 _) (chk_spO oid hl) (fun x h => by cases h)
def me3C (k : KC) (oid : List UInt8) : List UInt8 := certB (wrQ 48 (k.L.set 6 (wrQ 48 (spO oid))).flatten) (k.gb.take 100)
theorem me3_no (k : KC) (oid : List UInt8) (h : ∃ a, oidQ oid = some a) (hl : oid.length ≤ 300) (hn : oid ≠ rsO) : certQ (me3C k oid) = .inl 9 := by
  refine cert_no _ _ _ (me3_all k oid hl) (me3_chk k oid hl) (by have := me3_len k oid hl; omega) (by have := take_len k.gb 100; omega) ?_
  rw [tb_run _ _ _ _ _ _ _ _ _ (me3_all k oid hl), rd0]
  simp only [Option.bind_some]
  rw [rd1, rd2, rd3, rd4, rd3]
  simp only [Option.bind_some]
  rw [ke_oid oid h hl, if_neg hn]
  rfl
theorem me3_yes (k : KC) (oid : List UInt8) (h : ∃ a, oidQ oid = some a) (hl : oid.length ≤ 300) (hn : oid = rsO) : ∃ c, certQ (me3C k oid) = .inr c ∧ c.n = [5] ∧ c.e = 3 := by
  have ht : ∃ C : Ce, tbQ (wrQ 48 (k.L.set 6 (wrQ 48 (spO oid))).flatten, (k.L.set 6 (wrQ 48 (spO oid))).flatten) = some C ∧ C.n = [5] ∧ C.e = 3 := by
    refine ⟨⟨[], [], nameB (k.is.data.toList.take 200), nameB (k.ss.data.toList.take 200), serM k.sb, fM k.f, tM k.f k.t, [5], 3, [], false, -1, -1, true⟩, ?_, rfl, rfl⟩
    rw [tb_run _ _ _ _ _ _ _ _ _ (me3_all k oid hl), rd0]
    simp only [Option.bind_some]
    rw [rd1, rd2, rd3, rd4, rd3]
    simp only [Option.bind_some]
    rw [ke_oid oid h hl, if_pos hn]
    simp only [Option.bind_some, exsQ]
    rfl
  obtain ⟨C, ht, h5, h3⟩ := ht
  have h1 := me3_len k oid hl
  have h2 := take_len k.gb 100
  exact ⟨_, cert_yes _ _ _ C (me3_all k oid hl) (me3_chk k oid hl) (by omega) (by omega) ht, h5, h3⟩
end Go.Proofs.Ytomolfdcdmncoaa

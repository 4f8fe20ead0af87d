/-
  cert: certificates with extensions of any kind, read (plain words).
-/
import Derived.Test.YtomolfdcdmncoaaCfQ
import Derived.Test.YtomolfdcdmncoaaMyC
namespace Go.Proofs.Ytomolfdcdmncoaa
open Go.RowKit Go
set_option linter.unusedVariables false
set_option linter.unusedSimpArgs false
set_option maxRecDepth 100000
/-- An extension as the statements make it: identifier, critical, octets. -/
abbrev Ex := List UInt8 × Bool × List UInt8
def exB (x : Ex) : List UInt8 := extO x.1 x.2.1 x.2.2
def exE (x : Ex) : El := (extO x.1 x.2.1 x.2.2, inO x.1 x.2.1 x.2.2)
def exsF (l : List Ex) : List UInt8 := l.flatMap exB
def ExFit (x : Ex) : Prop := x.1.length ≤ 1000 ∧ x.2.2.length ≤ 7000
/-- As cert_yes, of longer ones. -/
theorem cert_yes2 (body sig : List UInt8) (l : List El) (c : Ce) (hb : allQ body = some l) (hl : ∀ p ∈ l, chk 13 p.1 p.2 = 0) (h1 : body.length ≤ 8000) (h2 : sig.length ≤ 100) (h : tbQ (wrQ 48 body, body) = some c) :
    certQ (certB (wrQ 48 body) sig) = .inr { c with sig := sig, raw := certB (wrQ 48 body) sig, tbs := wrQ 48 body } := by
  have hw := wrQ_len 48 body (by omega)
  have hc := cert_len (wrQ 48 body) sig (by omega) (by omega)
  unfold certQ
  rw [if_neg (by omega), if_neg (by rw [tbs_chk body sig l hb hl (by omega) (by omega)]; decide), wh_wr body sig c (by omega) (by omega) h]
theorem cert_no2 (body sig : List UInt8) (l : List El) (hb : allQ body = some l) (hl : ∀ p ∈ l, chk 13 p.1 p.2 = 0) (h1 : body.length ≤ 8000) (h2 : sig.length ≤ 100) (h : tbQ (wrQ 48 body, body) = none) :
    certQ (certB (wrQ 48 body) sig) = .inl 9 := by
  have hw := wrQ_len 48 body (by omega)
  have hc := cert_len (wrQ 48 body) sig (by omega) (by omega)
  unfold certQ
  rw [if_neg (by omega), if_neg (by rw [tbs_chk body sig l hb hl (by omega) (by omega)]; decide), wh_no body sig (by omega) (by omega) h]
theorem bod_len3 (sb nb isb ssb : List UInt8) (f t : Tm) (e : Nat) : (bodM sb nb isb ssb f t e).length ≤ 1700 := by
  have h1 := serM_len sb
  have h2 := in_len _ (take_len isb 200)
  have h3 := in_len _ (take_len ssb 200)
  have h4 := nM_len nb
  have a := wrQ_len 2 (serM sb) (by omega)
  have b := wrQ_len 48 _ (Nat.le_trans h2 (by omega))
  have c := wrQ_len 48 _ (Nat.le_trans h3 (by omega))
  have d := spanB_len (fM f) (tM f t)
  have d2 := wrQ_len 48 (spanB (fM f) (tM f t)) (by omega)
  have g := spkB_len (nM nb) (e % 8589934592) (by omega)
  have g2 := wrQ_len 48 (spkB (nM nb) (e % 8589934592)) (by omega)
  have p : (wrQ 160 [2, 1, 2]).length = 5 := by decide +kernel
  have q : sgnB.length = 15 := rfl
  unfold bodM tbB
  simp only [List.length_append, List.length_nil]
  omega
theorem KC.Llen2 (k : KC) : k.L.flatten.length ≤ 1700 := by unfold KC.L; rw [elL_flat]; exact bod_len3 ..
theorem ex_len (x : Ex) (h : ExFit x) : (exB x).length ≤ 8100 ∧ (inO x.1 x.2.1 x.2.2).length ≤ 8020 := by
  have a := inO_len x.1 x.2.1 x.2.2 h.1 (Nat.le_trans h.2 (by omega))
  have h1 := h.1
  have h2 := h.2
  have b := wrQ_len 48 (inO x.1 x.2.1 x.2.2) (by omega)
  unfold exB
  rw [extO_is]
  omega
theorem exs_allF : ∀ (l : List Ex), (∀ x ∈ l, ExFit x) → allQ (exsF l) = some (l.map exE)
  | [], _ => all_nil
  | x :: r, h => by
    have hx := ex_len x (h x (List.mem_cons_self ..))
    have e : exsF (x :: r) = wrQ 48 (inO x.1 x.2.1 x.2.2) ++ exsF r := by simp [exsF, exB, extO_is]
    rw [e, sall (by decide) (by omega) (exs_allF r (fun y hy => h y (List.mem_cons_of_mem _ hy)))]
    rfl
theorem chk_exE (x : Ex) (h : ExFit x) : chk 11 (exE x).1 (exE x).2 = 0 := by
  refine chk_in 10 48 (inO x.1 x.2.1 x.2.2) _ (inO_all x.1 x.2.1 x.2.2 h.1 (Nat.le_trans h.2 (by omega))) ?_
  intro q hq
  simp only [List.mem_cons, List.mem_append, List.not_mem_nil, or_false] at hq
  rcases hq with rfl | hq | rfl
  · exact chk_flat 10 6 x.1 (by decide)
  · split at hq
    · simp only [List.mem_singleton] at hq
      subst hq
      exact chk_flat 10 1 [255] (by decide)
    · cases hq
  · exact chk_flat 10 4 x.2.2 (by decide)
def xEl (F : List UInt8) : El := (wrQ 163 (wrQ 48 F), wrQ 48 F)
theorem exs_run (F : List UInt8) (els : List El) (hF : allQ F = some els) (hl : F.length ≤ 50000) : exsQ [xEl F] = esQ els xt0 := by
  have hw := wrQ_len 48 F (by omega)
  unfold exsQ xEl
  simp only []
  rw [wi_wr 163 _ 163 rfl, all1 (by decide) (by omega)]
  simp only [Option.bind_some, nxQ]
  rw [wi_wr 48 _ 48 rfl, hF]
  simp only [Option.bind_some, enQ]
  cases esQ els xt0 <;> rfl
theorem chk_xEl (F : List UInt8) (l : List Ex) (h : ∀ x ∈ l, ExFit x) (hF : F = exsF l) (hl : F.length ≤ 50000) : chk 13 (xEl F).1 (xEl F).2 = 0 := by
  have hw := wrQ_len 48 F (by omega)
  refine chk_in 12 163 (wrQ 48 F) [(wrQ 48 F, F)] (all1 (by decide) (by omega)) ?_
  intro q hq
  rw [List.mem_singleton] at hq
  subst hq
  refine chk_in 11 48 F (l.map exE) (by rw [hF]; exact exs_allF l h) ?_
  intro q hq
  obtain ⟨x, hx, rfl⟩ := List.mem_map.1 hq
  exact chk_exE x (h x hx)
/-- The elements of a signed part with extensions. -/
def wxE (l : List Ex) : List El := if l = [] then [] else [xEl (exsF l)]
theorem wx_all (k : KC) (l : List Ex) (h : ∀ x ∈ l, ExFit x) (hl : (exsF l).length ≤ 50000) (X : List (List UInt8)) (hX : X = if l = [] then [] else [wrQ 163 (wrQ 48 (exsF l))]) :
    allQ (k.L ++ X).flatten = some (E0 :: E1 k.sb :: E2 :: E3 k.is.data.toList :: E4 k.f k.t :: E3 k.ss.data.toList :: E6 k.nb k.e :: wxE l) := by
  have h2 := in_len _ (take_len k.is.data.toList 200)
  have h3 := in_len _ (take_len k.ss.data.toList 200)
  have h4 := nM_len k.nb
  have h5 := serM_len k.sb
  have d := spanB_len (fM k.f) (tM k.f k.t)
  have g := spkB_len (nM k.nb) (k.e % 8589934592) (by omega)
  have e3 : ∀ s : List UInt8, (inM (s.take 200)).length ≤ 300 := fun s => in_len _ (take_len s 200)
  have i1 := e3 k.is.data.toList
  have i2 := e3 k.ss.data.toList
  have hw := wrQ_len 48 (exsF l) (by omega)
  have hXa : allQ X.flatten = some (wxE l) := by
    rw [hX]
    unfold wxE
    split
    · exact all_nil
    · simp only [List.flatten_cons, List.flatten_nil]
      exact sall (by decide) (by omega) all_nil
  rw [E3_is, E3_is]
  unfold E0 E1 E2 E4 E6 KC.L elL elP
  simp only [List.map_cons, List.map_nil, List.cons_append, List.nil_append, List.flatten_cons]
  rw [nameB_is, nameB_is]
  exact sall (by decide) (by decide) (sall (by decide) (by omega) (sall (by decide) (by decide) (sall (by decide) (by omega) (sall (by decide) (by omega) (sall (by decide) (by omega) (sall (by decide) (by omega) hXa))))))
theorem wx_len (k : KC) (l : List Ex) (hl : (exsF l).length ≤ 6200) (X : List (List UInt8)) (hX : X = if l = [] then [] else [wrQ 163 (wrQ 48 (exsF l))]) : (k.L ++ X).flatten.length ≤ 7920 := by
  have h2 := k.Llen2
  have hw := wrQ_len 48 (exsF l) (by omega)
  have hw2 := wrQ_len 163 (wrQ 48 (exsF l)) (by omega)
  rw [List.flatten_append, List.length_append, hX]
  split
  · simp only [List.flatten_nil, List.length_nil]; omega
  · simp only [List.flatten_cons, List.flatten_nil, List.append_nil]; omega
theorem wx_chk (k : KC) (l : List Ex) (h : ∀ x ∈ l, ExFit x) (hl : (exsF l).length ≤ 50000) : ∀ p ∈ E0 :: E1 k.sb :: E2 :: E3 k.is.data.toList :: E4 k.f k.t :: E3 k.ss.data.toList :: E6 k.nb k.e :: wxE l, chk 13 p.1 p.2 = 0 :=
  all7 (p := fun p => chk 13 p.1 p.2 = 0) ck0 (ck1 _) ck2 (ck3 _) (ck4 _ _) (ck3 _) (ck6 _ _) (fun x hx => by
    unfold wxE at hx
    split at hx
    · cases hx
    · rw [List.mem_singleton] at hx
      subst hx
      exact chk_xEl _ l h rfl hl)
/-- What extensions come to. -/
def exsV (l : List Ex) : Option Xt := if l = [] then some xt0 else esG (l.map exE) [] xt0
theorem wx_exs (l : List Ex) (h : ∀ x ∈ l, ExFit x) (hl : (exsF l).length ≤ 50000) : exsQ (wxE l) = exsV l := by
  unfold wxE exsV
  split
  · rfl
  · rename_i hne
    rw [exs_run _ _ (exs_allF l h) hl]
    cases l with
    | nil => exact absurd rfl hne
    | cons x r => rfl
def wxC (k : KC) (X : List (List UInt8)) : List UInt8 := certB (wrQ 48 (k.L ++ X).flatten) (k.gb.take 100)
theorem wx_no (k : KC) (l : List Ex) (h : ∀ x ∈ l, ExFit x) (hl : (exsF l).length ≤ 6200) (X : List (List UInt8)) (hX : X = if l = [] then [] else [wrQ 163 (wrQ 48 (exsF l))]) (hv : exsV l = none) : certQ (wxC k X) = .inl 9 := by
  have ha := wx_all k l h (by omega) X hX
  refine cert_no2 _ _ _ ha (wx_chk k l h (by omega)) (by have := wx_len k l hl X hX; omega) (by have := take_len k.gb 100; omega) ?_
  rw [tb_run _ _ _ _ _ _ _ _ _ ha, rd0]
  simp only [Option.bind_some]
  rw [rd1, rd2, rd3, rd4, rd3, rd6]
  simp only [Option.bind_some]
  rw [wx_exs l h (by omega), hv]
  rfl
def ceW (k : KC) (c : Xt) : Ce := ⟨[], [], nameB (k.is.data.toList.take 200), nameB (k.ss.data.toList.take 200), serM k.sb, fM k.f, tM k.f k.t, nM k.nb, k.e % 8589934592, [], c.ca, c.path, c.usage, c.code⟩
theorem wx_all_yes (k : KC) (l : List Ex) (h : ∀ x ∈ l, ExFit x) (hl : (exsF l).length ≤ 6200) (X : List (List UInt8)) (hX : X = if l = [] then [] else [wrQ 163 (wrQ 48 (exsF l))]) (c : Xt) (hv : exsV l = some c) :
    certQ (wxC k X) = .inr { ceW k c with sig := k.gb.take 100, raw := wxC k X, tbs := wrQ 48 (k.L ++ X).flatten } := by
  have ha := wx_all k l h (by omega) X hX
  have ht : tbQ (wrQ 48 (k.L ++ X).flatten, (k.L ++ X).flatten) = some (ceW k c) := by
    rw [tb_run _ _ _ _ _ _ _ _ _ ha, rd0]
    simp only [Option.bind_some]
    rw [rd1, rd2, rd3, rd4, rd3, rd6]
    simp only [Option.bind_some]
    rw [wx_exs l h (by omega), hv]
    rfl
  have h1 := wx_len k l hl X hX
  have h2 := take_len k.gb 100
  unfold wxC
  generalize ceW k c = C at *
  exact cert_yes2 _ _ _ C ha (wx_chk k l h (by omega)) (by omega) (by omega) ht
theorem wx_yes (k : KC) (l : List Ex) (h : ∀ x ∈ l, ExFit x) (hl : (exsF l).length ≤ 6200) (X : List (List UInt8)) (hX : X = if l = [] then [] else [wrQ 163 (wrQ 48 (exsF l))]) (c : Xt) (hv : exsV l = some c) :
    ∃ ce, certQ (wxC k X) = .inr ce ∧ ce.iss = nameB (k.is.data.toList.take 200) ∧ ce.sub = nameB (k.ss.data.toList.take 200) ∧ ce.ca = c.ca ∧ ce.path = c.path ∧ ce.usage = c.usage ∧ ce.code = c.code :=
  ⟨_, wx_all_yes k l h hl X hX c hv, by simp only [ceW], by simp only [ceW], by simp only [ceW], by simp only [ceW], by simp only [ceW], by simp only [ceW]⟩
/-- With's rows are these bytes. -/
theorem wX_is (rows : List Row1) (l : List Ex) (h : rows.map (·.2.2.2) = l.map exB) : wX rows = if l = [] then [] else [wrQ 163 (wrQ 48 (exsF l))] := by
  have hf : flatR rows = exsF l := by rw [flat_map, h]; unfold exsF; rw [List.flatMap_def]
  unfold wX
  rw [hf]
  cases rows with
  | nil =>
    cases l with
    | nil => rfl
    | cons x r => simp at h
  | cons y s =>
    cases l with
    | nil => simp at h
    | cons x r => rfl
/-- One step over an extension whose meaning is known or not. -/
theorem es_one (x : Ex) (a : List Nat) (r : List El) (seen : List (List UInt8)) (c : Xt) (h : oidQ x.1 = some a) (hs : ¬ x.1 ∈ seen) (hf : ExFit x) : esG (exE x :: r) seen c = (exQ c a x.2.1 x.2.2).bind fun c' => esG r (x.1 :: seen) c' := by
  simp only [esG, exE]
  rw [oxO_wr x.1 x.2.1 x.2.2 a seen h hs hf.1 (Nat.le_trans hf.2 (by omega))]
  rfl
theorem es_bad (x : Ex) (r : List El) (seen : List (List UInt8)) (c : Xt) (h : oidQ x.1 = none) (hf : ExFit x) : esG (exE x :: r) seen c = none := by
  simp only [esG, exE]
  have h1 : oxQ (extO x.1 x.2.1 x.2.2, inO x.1 x.2.1 x.2.2) seen = none := by
    unfold oxQ
    rw [extO_is, wi_wr 48 _ 48 rfl, inO_all x.1 x.2.1 x.2.2 hf.1 (Nat.le_trans hf.2 (by omega))]
    simp only [Option.bind_some, nxQ]
    unfold odQ
    rw [tg_wr, gd_yes (show (6 : UInt8).toNat = 6 from rfl)]
    simp only [Option.bind_some]
    rw [h]
    rfl
  rw [h1]
  rfl
end Go.Proofs.Ytomolfdcdmncoaa

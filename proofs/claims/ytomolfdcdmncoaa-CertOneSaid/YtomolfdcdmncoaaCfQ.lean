/-
  cert: certificates of any elements, read; what Parse answers, in one form.
-/
import Derived.Test.YtomolfdcdmncoaaCc8
namespace Go.Proofs.Ytomolfdcdmncoaa
open Go.RowKit Go
set_option linter.unusedVariables false
set_option linter.unusedSimpArgs false
set_option maxRecDepth 100000
def verQ (x : El) : Option Unit := (wiQ x 160).bind fun v => (nxQ v).bind fun pv => (smQ pv.1 3).bind fun ver => (gd (ver = 2)).bind fun _ => enQ pv.2
/-- A signed part of so many elements. -/
theorem tb_run (body : List UInt8) (e0 e1 e2 e3 e4 e5 e6 : El) (xl : List El) (hb : allQ body = some (e0 :: e1 :: e2 :: e3 :: e4 :: e5 :: e6 :: xl)) : tbQ (wrQ 48 body, body) =
    (verQ e0).bind fun _ => (seQ e1).bind fun ser => (meQ e2 11).bind fun _ => (anQ e3).bind fun iss => (spQ e4).bind fun sp => (anQ e5).bind fun sub => (keQ e6).bind fun k => (exsQ xl).bind fun c =>
      some ⟨[], [], iss, sub, ser, sp.1, sp.2, k.1, k.2, [], c.ca, c.path, c.usage, c.code⟩ := by
  unfold tbQ verQ
  rw [wi_wr 48 _ 48 rfl, hb]
  simp only [Option.bind_some, nxQ, Option.bind_assoc]
theorem tbs_chk (body sig : List UInt8) (l : List El) (hb : allQ body = some l) (hl : ∀ p ∈ l, chk 13 p.1 p.2 = 0) (h1 : body.length ≤ 100000) (h2 : sig.length ≤ 100000) : checkQ (certB (wrQ 48 body) sig) = 0 := by
  have hw := wrQ_len 48 body (by omega)
  have hw3 := wrQ_len 3 (0 :: sig) (by simp only [List.length_cons]; omega)
  simp only [List.length_cons] at hw3
  have hcl : (wrQ 48 body ++ (sgnB ++ wrQ 3 (0 :: sig))).length < 4294967296 := by
    simp only [List.length_append]
    have : sgnB.length = 15 := rfl
    omega
  unfold certB
  rw [check_wr9 48 (by decide) _ hcl]
  refine chk_in 14 48 _ [(wrQ 48 body, body), (wrQ 48 sgnI, sgnI), (wrQ 3 (0 :: sig), 0 :: sig)] ?_ ?_
  · rw [show sgnB = wrQ 48 sgnI from sgn_wr]
    exact allS (by decide) (by omega) (allS (by decide) (by decide) (all1 (by decide) (by simp only [List.length_cons]; omega)))
  · intro q hq
    simp only [List.mem_cons, List.not_mem_nil, or_false] at hq
    rcases hq with rfl | rfl | rfl
    · exact chk_in 13 48 _ l hb hl
    · exact chk_sgn 13
    · dsimp only
      exact chk_flat 14 3 _ (by decide)
/-- A certificate that is read. -/
theorem cert_yes (body sig : List UInt8) (l : List El) (c : Ce) (hb : allQ body = some l) (hl : ∀ p ∈ l, chk 13 p.1 p.2 = 0) (h1 : body.length ≤ 5000) (h2 : sig.length ≤ 1000) (h : tbQ (wrQ 48 body, body) = some c) :
    certQ (certB (wrQ 48 body) sig) = .inr { c with sig := sig, raw := certB (wrQ 48 body) sig, tbs := wrQ 48 body } := by
  have hw := wrQ_len 48 body (by omega)
  have hc := cert_len (wrQ 48 body) sig (by omega) (by omega)
  unfold certQ
  rw [if_neg (by omega), if_neg (by rw [tbs_chk body sig l hb hl (by omega) (by omega)]; decide), wh_wr body sig c (by omega) (by omega) h]
theorem wh_no (body sig : List UInt8) (hb : body.length ≤ 1000000) (hs : sig.length ≤ 1000000) (h : tbQ (wrQ 48 body, body) = none) : whQ (certB (wrQ 48 body) sig) = none := by
  have l1 := wrQ_len 48 body (by omega)
  have l2 := wrQ_len 3 (0 :: sig) (by simp; omega)
  simp only [List.length_cons] at l2
  have hl : (wrQ 48 body ++ (sgnB ++ wrQ 3 (0 :: sig))).length < 4294967296 := by
    simp only [List.length_append]
    have : sgnB.length = 15 := rfl
    omega
  unfold whQ certB
  rw [si_wr 48 _ (by decide) hl]
  simp only [Option.bind_some]
  rw [wi_wr 48 _ 48 rfl, allS (by decide) (by omega) (by rw [sgn_wr]; exact allS (by decide) (by simp) (all1 (by decide) (by simp; omega)))]
  simp only [Option.bind_some, nxQ]
  rw [h]
  rfl
/-- A certificate that is refused. -/
theorem cert_no (body sig : List UInt8) (l : List El) (hb : allQ body = some l) (hl : ∀ p ∈ l, chk 13 p.1 p.2 = 0) (h1 : body.length ≤ 5000) (h2 : sig.length ≤ 1000) (h : tbQ (wrQ 48 body, body) = none) :
    certQ (certB (wrQ 48 body) sig) = .inl 9 := by
  have hw := wrQ_len 48 body (by omega)
  have hc := cert_len (wrQ 48 body) sig (by omega) (by omega)
  unfold certQ
  rw [if_neg (by omega), if_neg (by rw [tbs_chk body sig l hb hl (by omega) (by omega)]; decide), wh_no body sig (by omega) (by omega) h]
/-! ### The elements of a case -/
section
variable (sb nb isb ssb : List UInt8) (f t : Tm) (e : Nat)
def inM (s : List UInt8) : List UInt8 := wrQ 49 (wrQ 48 (wrQ 6 [85, 4, 3] ++ wrQ 12 s))
def E0 : El := (wrQ 160 [2, 1, 2], [2, 1, 2])
def E1 : El := (wrQ 2 (serM sb), serM sb)
def E2 : El := (wrQ 48 sgnI, sgnI)
def E3 : El := (nameB (isb.take 200), inM (isb.take 200))
def E4 : El := (wrQ 48 (spanB (fM f) (tM f t)), spanB (fM f) (tM f t))
def E6 : El := (wrQ 48 (spkB (nM nb) (e % 8589934592)), spkB (nM nb) (e % 8589934592))
theorem elP_is : elP sb nb isb ssb f t e = [E0, E1 sb, E2, E3 isb, E4 f t, E3 ssb, E6 nb e] := rfl
theorem E3_is : E3 isb = (wrQ 48 (inM (isb.take 200)), inM (isb.take 200)) := by unfold E3; rw [nameB_is]; rfl
theorem rd0 : verQ E0 = some () := by
  unfold verQ E0
  rw [show wiQ (wrQ 160 [2, 1, 2], [2, 1, 2]) 160 = some [([2, 1, 2], [2])] by decide +kernel]
  simp only [Option.bind_some, nxQ]
  rw [show smQ ([2, 1, 2], [2]) 3 = some 2 by decide +kernel]
  simp only [Option.bind_some, enQ]
  rw [gd_yes trivial]
  rfl
theorem rd1 : seQ (E1 sb) = some (serM sb) := serM_ok sb
theorem rd2 : meQ E2 11 = some () := by decide +kernel
theorem rd3 : anQ (E3 isb) = some (nameB (isb.take 200)) := an_wr (inM (isb.take 200))
theorem rd4 : spQ (E4 f t) = some (fM f, tM f t) := sp_wr (fM f) (tM f t) (fM_right f) (tM_right f t) (tM_less f t)
theorem rd6 : keQ (E6 nb e) = some (nM nb, e % 8589934592) := by
  have h := ke_wr (nM nb) (e % 8589934592) (by have := nM_len nb; omega) (by omega)
  rw [nM_trim] at h
  exact h
theorem ck0 : chk 13 E0.1 E0.2 = 0 := chk_ver 12
theorem ck1 : chk 13 (E1 sb).1 (E1 sb).2 = 0 := chk_flat 13 2 (serM sb) (by decide)
theorem ck2 : chk 13 E2.1 E2.2 = 0 := chk_sgn 12
theorem ck3 : chk 13 (E3 isb).1 (E3 isb).2 = 0 := chk_name (isb.take 200) (by have := take_len isb 200; omega)
theorem ck4 : chk 13 (E4 f t).1 (E4 f t).2 = 0 := by
  have h := chk_span 12 (fM f) (tM f t)
  unfold E4
  exact h
theorem ck6 : chk 13 (E6 nb e).1 (E6 nb e).2 = 0 := by
  have h := chk_spk 11 (nM nb) (e % 8589934592) (by have := nM_len nb; omega)
  unfold E6
  exact h
end
/-- All elements of a list are right through and through. -/
theorem all7 {p : El → Prop} {a b c d e f g : El} {xl : List El} (h0 : p a) (h1 : p b) (h2 : p c) (h3 : p d) (h4 : p e) (h5 : p f) (h6 : p g) (hx : ∀ x ∈ xl, p x) : ∀ x ∈ a :: b :: c :: d :: e :: f :: g :: xl, p x := by
  intro x hx2
  simp only [List.mem_cons] at hx2
  rcases hx2 with rfl | rfl | rfl | rfl | rfl | rfl | rfl | h
  · exact h0
  · exact h1
  · exact h2
  · exact h3
  · exact h4
  · exact h5
  · exact h6
  · exact hx _ h
theorem sall {t : UInt8} {a rest : List UInt8} {l : List El} (ht : t.toNat % 32 ≠ 31) (ha : a.length ≤ 100000) (h : allQ rest = some l) : allQ (wrQ t a ++ rest) = some ((wrQ t a, a) :: l) := allS ht (by omega) h
/-! ### What Parse answers -/
def erQ (bs : List UInt8) : Nat := match certQ bs with | .inl er => er | .inr _ => 0
def PA (base : Nat) (bs : List UInt8) (D : Array Value) (W : World) : Prop := match certQ bs with
  | .inl _ => D = cert0
  | .inr c => ∃ raw tbs iss sub ser n sig : S3, D = certC raw tbs iss sub ser c.frm c.til n c.e sig c.xt ∧ OwnS3 W base raw c.raw ∧ OwnS3 W base tbs c.tbs ∧ OwnS3 W base iss c.iss ∧ OwnS3 W base sub c.sub ∧ OwnS3 W base ser c.ser ∧ OwnS3 W base n c.n ∧ OwnS3 W base sig c.sig
theorem PA.below {base : Nat} {bs : List UInt8} {D : Array Value} {W W' : World} (h : PA base bs D W) (hb : Below W.heap.size W W') : PA base bs D W' := by
  unfold PA at h ⊢
  split at h
  · exact h
  · obtain ⟨a, b, c, d, e, f, g, h0, h1, h2, h3, h4, h5, h6, h7⟩ := h
    exact ⟨a, b, c, d, e, f, g, h0, OwnB.below h1 hb (Nat.le_refl _), OwnB.below h2 hb (Nat.le_refl _), OwnB.below h3 hb (Nat.le_refl _), OwnB.below h4 hb (Nat.le_refl _), OwnB.below h5 hb (Nat.le_refl _), OwnB.below h6 hb (Nat.le_refl _), OwnB.below h7 hb (Nat.le_refl _)⟩
theorem PA.size {base : Nat} {bs : List UInt8} {D : Array Value} {W : World} (h : PA base bs D W) : D.size = 24 ∧ D.all (·.oneCell') = true := by
  unfold PA at h
  split at h
  · subst h; exact ⟨rfl, by simp [cert0, Value.oneCell']⟩
  · obtain ⟨a, b, c, d, e, f, g, rfl, _⟩ := h
    exact ⟨rfl, certC_one ..⟩
theorem info24 {D : Array Value} (h : D.size = 24) : (Try.prog.info? 33).map (·.size) = some D.size := by rw [h]; kernel_rfl
theorem parse9_any (A : Option Addr) (n c : Nat) (bs : List UInt8) (w : World) (hR : RB w A n bs) (hnc : n ≤ c) (hc : c ≤ maxLen) (hn : n ≤ 1000000) : Calls Try.prog 15 #[.slice A n c] w fun e w' => ∃ D, e = .returned (.tuple #[.agg D, .int .i64 (erQ bs : Int)]) ∧ PA w.heap.size bs D w' ∧ Below w.heap.size w w' := by
  refine (cparse_any A n c bs w hR hnc hc hn).mono ?_
  intro e w' hp
  unfold CeP at hp
  unfold erQ PA
  cases h : certQ bs with
  | inl er =>
    rw [h] at hp
    obtain ⟨rfl, hb⟩ := hp
    exact ⟨_, rfl, rfl, hb⟩
  | inr ce =>
    rw [h] at hp
    obtain ⟨⟨raw, tbs, iss, sub, ser, nn, sig, rfl, q0, q1, q2, q3, q4, q5, q6, _⟩, hb⟩ := hp
    exact ⟨_, rfl, ⟨raw, tbs, iss, sub, ser, nn, sig, rfl, q0, q1, q2, q3, q4, q5, q6⟩, hb⟩
/-- The answer of Parse as a region's value, and its first part. -/
def MR.par (base : Nat) (bs : List UInt8) : MR := ⟨fun v W => ∃ D, v = .tuple #[.agg D, .int .i64 (erQ bs : Int)] ∧ PA base bs D W, fun ⟨D, e, h⟩ hb => ⟨D, e, h.below hb⟩, false, fun h => nomatch h⟩
def MR.par0 (base : Nat) (bs : List UInt8) : MR := ⟨fun v W => ∃ D, v = .agg D ∧ PA base bs D W, fun ⟨D, e, h⟩ hb => ⟨D, e, h.below hb⟩, false, fun h => nomatch h⟩
theorem PA.lower {base base' : Nat} {bs : List UInt8} {D : Array Value} {W : World} (h : PA base bs D W) (hb : base' ≤ base) : PA base' bs D W := by
  unfold PA at h ⊢
  split at h
  · exact h
  · obtain ⟨a, b, c, d, e, f, g, h0, h1, h2, h3, h4, h5, h6, h7⟩ := h
    exact ⟨a, b, c, d, e, f, g, h0, OwnB.lower h1 hb, OwnB.lower h2 hb, OwnB.lower h3 hb, OwnB.lower h4 hb, OwnB.lower h5 hb, OwnB.lower h6 hb, OwnB.lower h7 hb⟩
theorem PA.keptC {base : Nat} {bs : List UInt8} {D : Array Value} {W W' : World} (h : PA base bs D W) {q : Nat} (hg : W.grownBy W' (some q)) {cs : Array Value} {mk : Nat × Nat} (hq : W.heap[q]? = some (.cells cs 33 mk)) : PA base bs D W' := by
  unfold PA at h ⊢
  split at h
  · exact h
  · obtain ⟨a, b, c, d, e, f, g, h0, h1, h2, h3, h4, h5, h6, h7⟩ := h
    exact ⟨a, b, c, d, e, f, g, h0, OwnB.keptK h1 hg hq (by decide), OwnB.keptK h2 hg hq (by decide), OwnB.keptK h3 hg hq (by decide), OwnB.keptK h4 hg hq (by decide), OwnB.keptK h5 hg hq (by decide), OwnB.keptK h6 hg hq (by decide), OwnB.keptK h7 hg hq (by decide)⟩
theorem parM {W : World} {base : Nat} {A : Option Addr} {n c : Nat} {bs : List UInt8} (h : RB W A n bs) (hnc : n ≤ c) (hc : c ≤ maxLen) (hl : bs.length ≤ 1000000) (hb : base ≤ W.heap.size) :
    Calls Try.prog 15 #[.slice A n c] W fun e w'' => ∃ v, e = .returned v ∧ (Below W.heap.size W w'' ∧ (MR.par base bs).p v w'') := by
  refine (parse9_any A n c bs W h hnc hc (by rw [← h.1]; omega)).mono ?_
  rintro e w' ⟨D, rfl, hp, hbl⟩
  exact ⟨_, rfl, hbl, D, rfl, hp.lower hb⟩
theorem mo_extract {P : Program} {o : Oper} {ρ : Operand → Value} {w : World} {R : Value → World → Prop} {x : Operand} {i : Nat} {v u : Value} (ho : o.op = .extract x i) (hx : ρ x = v) (hr : (Instr.extract v i).run P w = .ok u w) (h : R u w) : MonoOp P o ρ w R :=
  mo_val (by unfold execOp; simp only [ho, hx, Sem.run_bind, hr, Result.andThen_ok]; rfl) h
theorem kc_size9 (k : KC) : k.cells.size = 22 := rfl
theorem kc_info (k : KC) : (Try.prog.info? 28).map (·.size) = some k.cells.size := by rw [kc_size9]; kernel_rfl
theorem KC.put (k : KC) (w : World) (h : IsKC w k) (W : World) (hb : Below w.heap.size w W) (j : Nat) (ji : Int) (hj : ji = (j : Int)) (hj7 : j < 7) {A : Option Addr} {n c : Nat} {eb : List UInt8} (hE : RB W A n eb) (hl : eb.length ≤ 50000) :
    Calls Try.prog 29 #[.agg k.cells, .int .i64 ji, .slice A n c] W (Fresh W (certB (wrQ 48 ((elL k.sb k.nb k.is.data.toList k.ss.data.toList k.f k.t k.e).set j eb).flatten) (k.gb.take 100))) :=
  put_any k.s k.n k.g k.is k.ss k.f k.t k.e k.ca k.code k.pa k.us k.sb k.nb k.gb j ji A n c eb W (h.s.rb.below hb) (h.n.rb.below hb) (h.g.rb.below hb) h.s.le h.n.le h.g.le h.is h.ss h.f h.t hj hj7 hE hl
theorem KC.elems (k : KC) (w : World) (h : IsKC w k) (W : World) (hb : Below w.heap.size w W) : Calls Try.prog 30 #[.agg k.cells] W (ElemsP W (elL k.sb k.nb k.is.data.toList k.ss.data.toList k.f k.t k.e)) :=
  elements_any k.s k.n k.g k.is k.ss k.f k.t k.e k.ca k.code k.pa k.us k.sb k.nb k.gb W (h.s.rb.below hb) (h.n.rb.below hb) (h.g.rb.below hb) h.s.le h.n.le h.g.le h.is h.ss h.f h.t
theorem KC.withX (k : KC) (w : World) (h : IsKC w k) (W : World) (hb : Below w.heap.size w W) {EA : Option Addr} {en ec : Nat} {exl : List Row1} (hE : RowsP W EA exl) (hen : exl.length = en) (hem : en ≤ 1000) (hel : (flatR exl).length ≤ 50000) :
    Calls Try.prog 24 #[.agg k.cells, .slice EA en ec] W (Fresh W (certB (wrQ 48 ((elL k.sb k.nb k.is.data.toList k.ss.data.toList k.f k.t k.e) ++ wX exl).flatten) (k.gb.take 100))) :=
  with_any k.s k.n k.g k.is k.ss k.f k.t k.e k.ca k.code k.pa k.us k.sb k.nb k.gb EA en ec exl W (h.s.rb.below hb) (h.n.rb.below hb) (h.g.rb.below hb) h.s.le h.n.le h.g.le h.is h.ss h.f h.t hE hen hem hel
theorem set_len (L : List (List UInt8)) (j : Nat) (eb : List UInt8) : (L.set j eb).flatten.length ≤ L.flatten.length + eb.length := by
  induction L generalizing j with
  | nil => simp
  | cons x r ih =>
    cases j with
    | zero => simp only [List.set_cons_zero, List.flatten_cons, List.length_append]; omega
    | succ j =>
      have := ih j
      simp only [List.set_cons_succ, List.flatten_cons, List.length_append]; omega
def KC.L (k : KC) : List (List UInt8) := elL k.sb k.nb k.is.data.toList k.ss.data.toList k.f k.t k.e
theorem KC.Llen (k : KC) : k.L.flatten.length ≤ 2000 := by unfold KC.L; rw [elL_flat]; exact bod_len2 ..
end Go.Proofs.Ytomolfdcdmncoaa

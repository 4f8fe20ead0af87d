/-
  cert: certificates with extensions: what the walks of four laws use.
-/
import Derived.Test.YtomolfdcdmncoaaCfV
namespace Go.Proofs.Ytomolfdcdmncoaa
open Go.RowKit Go
set_option linter.unusedVariables false
set_option linter.unusedSimpArgs false
set_option maxRecDepth 100000
theorem erx_no {bs : List UInt8} {er : Nat} (h : certQ bs = .inl er) : erQ bs = er := by unfold erQ; rw [h]
theorem erx_yes {bs : List UInt8} {c : Ce} (h : certQ bs = .inr c) : erQ bs = 0 := by unfold erQ; rw [h]
theorem PA.yesX {base : Nat} {bs : List UInt8} {D : Array Value} {W : World} {c : Ce} (h : PA base bs D W) (hc : certQ bs = .inr c) : ∃ raw tbs iss sub ser n sig : S3, D = certC raw tbs iss sub ser c.frm c.til n c.e sig c.xt ∧ OwnS3 W base raw c.raw ∧ OwnS3 W base tbs c.tbs ∧ OwnS3 W base iss c.iss ∧ OwnS3 W base sub c.sub ∧ OwnS3 W base ser c.ser ∧ OwnS3 W base n c.n ∧ OwnS3 W base sig c.sig := by
  unfold PA at h
  rw [hc] at h
  exact h
def xX (l : List Ex) : List (List UInt8) := if l = [] then [] else [wrQ 163 (wrQ 48 (exsF l))]
def xC (k : KC) (l : List Ex) : List UInt8 := wxC k (xX l)
/-- Seven pieces of bytes, each the call's own. -/
def S7 (W : World) (base : Nat) (a b c d e f g : S3) (la lb lc ld le lf lg : List UInt8) : Prop := OwnS3 W base a la ∧ OwnS3 W base b lb ∧ OwnS3 W base c lc ∧ OwnS3 W base d ld ∧ OwnS3 W base e le ∧ OwnS3 W base f lf ∧ OwnS3 W base g lg
theorem S7.below {W W' : World} {base : Nat} {a b c d e f g : S3} {la lb lc ld le lf lg : List UInt8} (h : S7 W base a b c d e f g la lb lc ld le lf lg) (hb : Below W.heap.size W W') : S7 W' base a b c d e f g la lb lc ld le lf lg := by
  obtain ⟨h1, h2, h3, h4, h5, h6, h7⟩ := h
  exact ⟨OwnB.below h1 hb (Nat.le_refl _), OwnB.below h2 hb (Nat.le_refl _), OwnB.below h3 hb (Nat.le_refl _), OwnB.below h4 hb (Nat.le_refl _), OwnB.below h5 hb (Nat.le_refl _), OwnB.below h6 hb (Nat.le_refl _), OwnB.below h7 hb (Nat.le_refl _)⟩
theorem S7.keptC {W W' : World} {base : Nat} {a b c d e f g : S3} {la lb lc ld le lf lg : List UInt8} (h : S7 W base a b c d e f g la lb lc ld le lf lg) {q : Nat} (hg : W.grownBy W' (some q)) {cs : Array Value} {mk : Nat × Nat} (hq : W.heap[q]? = some (.cells cs 33 mk)) : S7 W' base a b c d e f g la lb lc ld le lf lg := by
  obtain ⟨h1, h2, h3, h4, h5, h6, h7⟩ := h
  exact ⟨OwnB.keptK h1 hg hq (by decide), OwnB.keptK h2 hg hq (by decide), OwnB.keptK h3 hg hq (by decide), OwnB.keptK h4 hg hq (by decide), OwnB.keptK h5 hg hq (by decide), OwnB.keptK h6 hg hq (by decide), OwnB.keptK h7 hg hq (by decide)⟩
/-- What a certificate of a case with extensions is read as. -/
theorem PA.ceX {base : Nat} {k : KC} {l : List Ex} {D : Array Value} {W : World} (h : PA base (xC k l) D W) (hf : ∀ x ∈ l, ExFit x) (hl : (exsF l).length ≤ 6200) (c : Xt) (hv : exsV l = some c) :
    ∃ raw tbs iss sub ser n sig : S3, D = certC raw tbs iss sub ser (fM k.f) (tM k.f k.t) n (k.e % 8589934592) sig c ∧ S7 W base raw tbs iss sub ser n sig (xC k l) (wrQ 48 (k.L ++ xX l).flatten) (nameB (k.is.data.toList.take 200)) (nameB (k.ss.data.toList.take 200)) (serM k.sb) (nM k.nb) (k.gb.take 100) := by
  obtain ⟨raw, tbs, iss, sub, ser, n, sig, hD, h0, h1, h2, h3, h4, h5, h6⟩ := PA.yesX h (wx_all_yes k l hf hl _ rfl c hv)
  simp only [ceW, Ce.xt] at hD h0 h1 h2 h3 h4 h5 h6
  exact ⟨raw, tbs, iss, sub, ser, n, sig, hD, h0, h1, h2, h3, h4, h5, h6⟩
theorem xC_er {k : KC} {l : List Ex} (hf : ∀ x ∈ l, ExFit x) (hl : (exsF l).length ≤ 6200) {c : Xt} (hv : exsV l = some c) : erQ (xC k l) = 0 := erx_yes (wx_all_yes k l hf hl _ rfl c hv)
theorem xC_no {k : KC} {l : List Ex} (hf : ∀ x ∈ l, ExFit x) (hl : (exsF l).length ≤ 6200) (hv : exsV l = none) : erQ (xC k l) = 9 := erx_no (wx_no k l hf hl _ rfl hv)
theorem xC_len (k : KC) (l : List Ex) (hl : (exsF l).length ≤ 6200) : (xC k l).length ≤ 100000 := by
  have h1 := wx_len k l hl (xX l) rfl
  have h2 := take_len k.gb 100
  have h3 := wrQ_len 48 (k.L ++ xX l).flatten (by omega)
  have h4 := cert_len (wrQ 48 (k.L ++ xX l).flatten) (k.gb.take 100) (by omega) (by omega)
  unfold xC wxC
  omega
theorem withM {k : KC} {w W : World} {base : Nat} (h : IsKC w k) (hb : Below w.heap.size w W) {A : Option Addr} {en ec : Nat} {exl : List Row1} (l : List Ex) (hE : RowsP W A exl) (hm : exl.map (·.2.2.2) = l.map exB) (hen : l.length = en) (hem : en ≤ 1000) (hel : (exsF l).length ≤ 50000) (hbW : base ≤ W.heap.size) :
    Calls Try.prog 24 #[.agg k.cells, .slice A en ec] W fun e w'' => ∃ v, e = .returned v ∧ (Below W.heap.size W w'' ∧ (MR.own base (xC k l)).p v w'') := by
  have hf : flatR exl = exsF l := by rw [flat_map, hm]; unfold exsF; rw [List.flatMap_def]
  have hlen : exl.length = en := by rw [← hen, ← List.length_map (f := exB), ← hm, List.length_map]
  have h1 := k.withX w h W hb hE hlen hem (by rw [hf]; exact hel) (ec := ec)
  rw [wX_is exl l hm] at h1
  exact fresh_own h1 hbW
theorem extM {W : World} {base : Nat} {A : Option Addr} {n c : Nat} {oid : List UInt8} (crit : Bool) {B : Option Addr} {m q : Nat} {body : List UInt8} (hA : RB W A n oid) (hB : RB W B m body) (hn : n ≤ 100000) (hm : m ≤ 100000) (hbW : base ≤ W.heap.size) :
    Calls Try.prog 25 #[.slice A n c, .bool crit, .slice B m q] W fun e w'' => ∃ v, e = .returned v ∧ (Below W.heap.size W w'' ∧ (MR.own base (exB (oid, crit, body))).p v w'') :=
  fresh_own (extO_any A n c oid crit B m q body W hA hB hn hm) hbW
theorem exsF_one (x : Ex) : (exsF [x]).length ≤ (exB x).length := by simp [exsF]
theorem exB_len (x : Ex) (h1 : x.1.length ≤ 1000) (h2 : x.2.2.length ≤ 50000) : (exB x).length ≤ x.1.length + x.2.2.length + 21 := by
  have a := wrQ_len 6 x.1 (by omega)
  have b := wrQ_len 4 x.2.2 (by omega)
  have d : (if x.2.1 then ([1, 1, 255] : List UInt8) else []).length ≤ 3 := by split <;> simp
  have c := wrQ_len 48 (wrQ 6 x.1 ++ ((if x.2.1 then [1, 1, 255] else []) ++ wrQ 4 x.2.2)) (by
    simp only [List.length_append]
    omega)
  simp only [List.length_append] at c
  show (extO x.1 x.2.1 x.2.2).length ≤ _
  unfold extO
  omega
theorem has_kindR {w w' : World} {base k n c : Nat} {e t : TypeId} {A : Option Addr} {vs : List Value} (h : OwnR w base e k A n c vs) {q : Nat} {cs : Array Value} {mk : Nat × Nat} (hq : w.heap[q]? = some (.cells cs t mk)) (hg : w.grownBy w' (blk A)) (ht : e ≠ t) : w'.heap[q]? = some (.cells cs t mk) :=
  (hg.block q (block_lt hq) (fun e => by
    obtain ⟨cur, h1⟩ := h.kind q e.symm
    rw [hq] at h1
    injection h1 with h1
    injection h1 with _ h3
    exact ht h3.symm)).trans hq
theorem rb_none (W : World) : RB W none 0 [] := ⟨rfl, fun h => absurd rfl h⟩
end Go.Proofs.Ytomolfdcdmncoaa

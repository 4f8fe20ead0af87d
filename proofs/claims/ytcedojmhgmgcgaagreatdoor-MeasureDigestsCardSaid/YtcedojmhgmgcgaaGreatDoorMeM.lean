/-
  measure: what Ranges and Digest tell, one form for any bytes.
-/
import Derived.Test.YtcedojmhgmgcgaaGreatDoorMeL
namespace Go.Proofs.YtcedojmhgmgcgaaGreatDoor
open Go.RowKit Go
set_option linter.unusedVariables false
set_option linter.unusedSimpArgs false
set_option maxRecDepth 100000
attribute [local go_sem] Oper.semAt_some
/-- What Ranges tells of any bytes. -/
structure RA (w : World) (bs : List UInt8) (A : Option Addr) (n c er : Nat) (w' : World) : Prop where
  b : Below w.heap.size w w'
  ok : er = 0 → ∃ im, parseQ bs = .inr im ∧ n = (rangesM im bs.length).length ∧ OwnR w' w.heap.size 39 2 A n c ((rangesM im bs.length).flatMap rngCells)
  no : er ≠ 0 → parseQ bs = .inl er ∧ A = none ∧ n = 0 ∧ c = 0
theorem ranges_abs {w w' : World} {bs : List UInt8} {e : Ending} (h : RangesP w bs e w') : ∃ (A : Option Addr) (n c er : Nat), e = .returned (.tuple #[.slice A n c, .int .i64 (er : Nat)]) ∧ RA w bs A n c er w' := by
  unfold RangesP at h
  cases hq : parseQ bs with
  | inl er =>
    rw [hq] at h
    have her := parse_er hq
    exact ⟨none, 0, 0, er, h.1, h.2, (fun e => by omega), fun _ => ⟨hq, rfl, rfl, rfl⟩⟩
  | inr im =>
    rw [hq] at h
    obtain ⟨⟨A, n, c, he, hn, ho⟩, hb⟩ := h
    exact ⟨A, n, c, 0, he, hb, (fun _ => ⟨im, hq, hn, ho⟩), fun e => absurd rfl e⟩
/-- What Digest tells of any bytes. -/
structure DA (w : World) (bs : List UInt8) (ds iv : Array Value) (er : Nat) (w' : World) : Prop where
  b : Below w.heap.size w w'
  sz : (Tryz.prog.info? 25).map (·.size) = some ds.size
  s1 : zD.size = ds.size
  so : ds.all (·.oneCell') = true
  isz : (Tryz.prog.info? 30).map (·.size) = some iv.size
  is1 : imZero.size = iv.size
  iso : iv.all (·.oneCell') = true
  ok : er = 0 → ∃ (im : Im) (V : Option Addr) (m cV : Nat) (U : Option Addr) (k cU : Nat) (xs : List Own1), parseQ bs = .inr im ∧ ds = ((digQ bs im).map v8).toArray ∧ iv = imVal im V m cV U k cU ∧ ImOwn w.heap.size im V m cV U k cU xs w'
  no : er ≠ 0 → parseQ bs = .inl er ∧ ds = zD ∧ iv = imZero
theorem digest_abs {w w' : World} {bs : List UInt8} {e : Ending} (h : DigestP w bs e w') : ∃ (ds iv : Array Value) (er : Nat), e = .returned (.tuple #[.agg ds, .agg iv, .int .i64 (er : Nat)]) ∧ DA w bs ds iv er w' := by
  unfold DigestP at h
  cases hq : parseQ bs with
  | inl er =>
    rw [hq] at h
    have her := parse_er hq
    exact ⟨zD, imZero, er, h.1, h.2, zD_size, rfl, zD_one, (by kernel_rfl), rfl, (by simp [imZero, Value.oneCell']), (fun e => by omega), fun _ => ⟨hq, rfl, rfl⟩⟩
  | inr im =>
    rw [hq] at h
    obtain ⟨⟨V, m, cV, U, k, cU, xs, he, ho⟩, hb⟩ := h
    have hdl : (digQ bs im).length = 32 := sumQ_len _ _
    refine ⟨_, _, 0, he, hb, ?_, ?_, dig_one _, (by kernel_rfl), rfl, im_one8 im V m cV U k cU, (fun _ => ⟨im, V, m, cV, U, k, cU, xs, hq, rfl, rfl, ho⟩), fun e => absurd rfl e⟩
    · rw [List.size_toArray, List.length_map, hdl]; kernel_rfl
    · show 32 = _
      rw [List.size_toArray, List.length_map, hdl]
theorem dig_ofv (bs : List UInt8) (im : Im) : (digQ bs im).length = 32 := sumQ_len _ _
/-- A piece of bytes that begin somewhere. -/
theorem rb_seg {w : World} {ba oa n c lo hi : Nat} {bs : List UInt8} (h : RB w (some ⟨ba, oa, none⟩) n bs) (hnc : n ≤ c) (h1 : lo ≤ hi) (h2 : hi ≤ n) : RB w (if c = lo then some (⟨ba, oa, none⟩ : Addr) else some ⟨ba, oa + lo, none⟩) (hi - lo) (seg bs (lo, hi)) :=
  rb_takeD (rb_cutD h hnc (by omega)) (by omega)
theorem rng_at : ∀ (L : List (Nat × Nat)) (j : Nat) (x : Nat × Nat), L[j]? = some x → (L.flatMap rngCells)[j * 2]? = some (.int .i64 (x.1 : Nat)) ∧ (L.flatMap rngCells)[j * 2 + 1]? = some (.int .i64 (x.2 : Nat))
  | [], j, x, h => by simp at h
  | y :: r, 0, x, h => by
    simp at h
    subst h
    exact ⟨rfl, rfl⟩
  | y :: r, j + 1, x, h => by
    have ih := rng_at r j x (by simpa using h)
    have e : ((y :: r).flatMap rngCells) = rngCells y ++ r.flatMap rngCells := rfl
    rw [e, List.getElem?_append_right (by simp [rngCells]; omega), List.getElem?_append_right (by simp [rngCells]; omega)]
    simp only [rngCells, List.length_cons, List.length_nil, Nat.zero_add, Nat.reduceAdd]
    rw [show (j + 1) * 2 - 2 = j * 2 by omega, show (j + 1) * 2 + 1 - 2 = j * 2 + 1 by omega]
    exact ih
theorem hashed_take (bs : List UInt8) (L : List (Nat × Nat)) (i : Nat) (x : Nat × Nat) (h : L[i]? = some x) : hashedL bs (L.take (i + 1)) = hashedL bs (L.take i) ++ seg bs x := by
  rw [List.take_add_one, h]
  exact hashed_snoc bs _ x
/-- What is read of an image that is one, for a loop over its ranges. -/
theorem ranges_facts (bs : List UInt8) (im : Im) (h : parseQ bs = .inr im) : 64 ≤ bs.length ∧ 3 ≤ (rangesM im bs.length).length ∧ (rangesM im bs.length).length ≤ 2000 ∧ ∀ (i : Nat) (x : Nat × Nat), (rangesM im bs.length)[i]? = some x → x.1 ≤ x.2 ∧ x.2 ≤ bs.length := by
  have himp := im_parts bs im h
  have hr := rise_im bs im h
  refine ⟨by have := himp.2.2.2.2.1; have := himp.2.2.2.2.2.1; have := himp.2.2.2.2.2.2.1; have := himp.2.2.2.2.2.2.2.1; omega, ?_, ?_, fun i x hx => ⟨(rise_at _ _ _ _ _ hr hx).1, (rise_at _ _ _ _ _ hr hx).2.1⟩⟩
  · unfold rangesM rangesL headR
    simp
  · have h9 := (im_fit bs im h).n
    have h8 := (riseL_perm im.secs).length_eq
    unfold rangesM rangesL headR secR tailR
    split
    · simp
      omega
    · simp
      omega
end Go.Proofs.YtcedojmhgmgcgaaGreatDoor

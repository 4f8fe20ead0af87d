/-
  cert: what is written is read back (plain words only).
-/
import Derived.Test.YtomolfdcdmncoaaCc4
import Derived.Test.YtomolfdcdmncoaaCc1
import Derived.Test.YtomolfdcdmncoaaCb9
import Derived.Test.YtomolfdcdmncoaaCc3
import Derived.Test.YtomolfdcdmncoaaCb7
import Derived.Test.YtomolfdcdmncoaaCb1
namespace Go.Proofs.Ytomolfdcdmncoaa
open Go.RowKit Go
set_option linter.unusedVariables false
set_option linter.unusedSimpArgs false
set_option maxRecDepth 100000
theorem allQ_wr9 (tag : UInt8) (ht : tag.toNat % 32 ≠ 31) (a rest : List UInt8) (ha : a.length < 4294967296) : allQ (wrQ tag a ++ rest) = (allQ rest).map ((wrQ tag a, a) :: ·) := by
  rw [allQ_some (split_wr tag a rest ht ha)]
  have e1 : (wrQ tag a ++ rest).take (wrQ tag a).length = wrQ tag a := by simp
  have e2 : (wrQ tag a ++ rest).drop (wrQ tag a).length = rest := by simp
  have e3 : (wrQ tag a).drop ((wrQ tag a).length - a.length) = a := by
    have : ∃ p, wrQ tag a = p ++ a := by unfold wrQ; split; exact ⟨[tag, _], rfl⟩; exact ⟨tag :: UInt8.ofNat (128 + (lenB a.length).length) :: lenB a.length, by simp⟩
    obtain ⟨p, hp⟩ := this
    rw [hp]; simp
  rw [e1, e2, e3]
theorem check_wr9 (tag : UInt8) (ht : tag.toNat % 32 ≠ 31) (b : List UInt8) (hb : b.length < 4294967296) : checkQ (wrQ tag b) = chk 15 (wrQ tag b) b := by
  have := allQ_wr9 tag ht b [] hb
  rw [List.append_nil, allQ_nil] at this
  unfold checkQ
  rw [this]
  rfl
theorem nth_wr9 (tag : UInt8) (b : List UInt8) : nth (wrQ tag b) 0 = tag.toNat := by unfold nth wrQ; split <;> rfl
theorem tg_wr (t : UInt8) (b : List UInt8) : tg (wrQ t b, b) = t.toNat := nth_wr9 t b
theorem wi_wr (t : UInt8) (b : List UInt8) (k : Nat) (hk : t.toNat = k) : wiQ (wrQ t b, b) k = allQ b := by
  unfold wiQ
  rw [tg_wr, gd_yes hk]
  rfl
theorem wr_end (tag : UInt8) (a : List UInt8) : ∃ p, wrQ tag a = p ++ a := by
  unfold wrQ
  split
  · exact ⟨[tag, _], rfl⟩
  · exact ⟨tag :: UInt8.ofNat (128 + (lenB a.length).length) :: lenB a.length, rfl⟩
theorem si_wr (t : UInt8) (b : List UInt8) (ht : t.toNat % 32 ≠ 31) (hb : b.length < 4294967296) : siQ (wrQ t b) = some (wrQ t b, b) := by
  have h := split_wr t b [] ht hb
  rw [List.append_nil] at h
  unfold siQ
  rw [h]
  simp only [Option.bind_some, List.take_length]
  rw [gd_yes trivial]
  simp only [Option.bind_some]
  have h2 : (wrQ t b).drop ((wrQ t b).length - b.length) = b := by
    have h3 := wr_end t b
    obtain ⟨p, hp⟩ := h3
    rw [hp, List.length_append, Nat.add_sub_cancel, List.drop_left]
  rw [h2]
theorem all_nil : allQ [] = some [] := allQ_nil
theorem allS {t : UInt8} {a rest : List UInt8} {l : List El} (ht : t.toNat % 32 ≠ 31) (ha : a.length < 4294967296) (h : allQ rest = some l) : allQ (wrQ t a ++ rest) = some ((wrQ t a, a) :: l) := by
  rw [allQ_wr9 t ht a rest ha, h]
  rfl
theorem all1 {t : UInt8} {a : List UInt8} (ht : t.toNat % 32 ≠ 31) (ha : a.length < 4294967296) : allQ (wrQ t a) = some [(wrQ t a, a)] := by
  have h := allS (rest := []) ht ha all_nil
  rwa [List.append_nil] at h
theorem nu_wr (bs : List UInt8) : nuQ (wrQ 2 (putI bs), putI bs) = some (trimZ bs) := by
  unfold nuQ
  rw [tg_wr, gd_yes (show (2 : UInt8).toNat = 2 from rfl)]
  obtain ⟨_, _, _, _, h, _⟩ := putI_case bs
  exact h
theorem sm_wr (bs : List UInt8) (m : Nat) (h1 : (trimZ bs).length < 8) (h2 : beN (trimZ bs) < m) : smQ (wrQ 2 (putI bs), putI bs) m = some (beN (trimZ bs)) := by
  unfold smQ
  rw [nu_wr]
  simp only [Option.bind_some]
  rw [gd_yes h1]
  simp only [Option.bind_some]
  rw [gd_yes h2]
  rfl
theorem bits0 (b : List UInt8) : bitsQ (0 :: b) = some (b, 0) := by
  simp [bitsQ, Nat.mod_one]
theorem wb_wr (b : List UInt8) : wbQ (wrQ 3 (0 :: b), 0 :: b) = some b := by
  unfold wbQ
  rw [tg_wr, gd_yes (show (3 : UInt8).toNat = 3 from rfl)]
  simp only [Option.bind_some]
  rw [bits0]
  simp only [Option.bind_some]
  rw [gd_yes trivial]
  rfl
theorem us_all : ∀ v, v < 512 → 0 < v → usQ (wrQ 3 (usB v), usB v) = some v := by decide +kernel
theorem mo_wr (t : Tm) (h : rightB t = true) : moQ (wrQ 24 (textB t), textB t) = some t := by
  unfold moQ
  rw [tg_wr]
  rw [if_neg (show ¬ (24 : UInt8).toNat = 23 by decide), if_pos (show (24 : UInt8).toNat = 24 from rfl)]
  exact gen_text h
theorem sp_wr (f t : Tm) (hf : rightB f = true) (ht : rightB t = true) (hl : lessB t f = false) : spQ (wrQ 48 (wrQ 24 (textB f) ++ wrQ 24 (textB t)), wrQ 24 (textB f) ++ wrQ 24 (textB t)) = some (f, t) := by
  unfold spQ
  rw [wi_wr 48 _ 48 rfl, allS (by decide) (by rw [text_len]; omega) (all1 (by decide) (by rw [text_len]; omega))]
  simp only [Option.bind_some, nxQ, enQ]
  rw [mo_wr f hf]
  simp only [Option.bind_some, nxQ, enQ]
  rw [mo_wr t ht]
  simp only [Option.bind_some, nxQ, enQ]
  rw [gd_yes hl]
  rfl
theorem an_wr (b : List UInt8) : anQ (wrQ 48 b, b) = some (wrQ 48 b) := by
  unfold anQ
  rw [tg_wr, gd_yes (show (48 : UInt8).toNat = 48 from rfl)]
  rfl
theorem od_wr (xs : List Nat) (b : List UInt8) (h : oidQ b = some xs) : odQ (wrQ 6 b, b) = some xs := by
  unfold odQ
  rw [tg_wr, gd_yes (show (6 : UInt8).toNat = 6 from rfl)]
  exact h
/-- The method of a signature, as it is written. -/
theorem sgn_me : sgnB = wrQ 48 (wrQ 6 [42, 134, 72, 134, 247, 13, 1, 1, 11] ++ wrQ 5 []) := by decide +kernel
theorem sgn_ok : meQ (sgnB, [6, 9, 42, 134, 72, 134, 247, 13, 1, 1, 11, 5, 0]) 11 = some () := by decide +kernel
theorem sgn_wr : sgnB = wrQ 48 [6, 9, 42, 134, 72, 134, 247, 13, 1, 1, 11, 5, 0] := by decide +kernel
/-- The whole of a written certificate. -/
theorem wh_wr (body sig : List UInt8) (c : Ce) (hb : body.length ≤ 1000000) (hs : sig.length ≤ 1000000) (h : tbQ (wrQ 48 body, body) = some c) :
    whQ (certB (wrQ 48 body) sig) = some { c with sig := sig, raw := certB (wrQ 48 body) sig, tbs := wrQ 48 body } := by
  have l1 := wrQ_len 48 body (by omega)
  have l2 := wrQ_len 3 (0 :: sig) (by simp; omega)
  simp only [List.length_cons] at l2
  have hl : (wrQ 48 body ++ (sgnB ++ wrQ 3 (0 :: sig))).length < 4294967296 := by
    simp only [List.length_append]
    have : sgnB.length = 15 := rfl
    omega
  unfold whQ certB
  rw [si_wr 48 _ (by decide) hl]
  simp only [Option.bind_some]
  rw [wi_wr 48 _ 48 rfl, allS (by decide) (by omega) (by rw [sgn_wr]; exact allS (by decide) (by simp) (all1 (by decide) (by simp; omega)))]
  simp only [Option.bind_some, nxQ]
  rw [h]
  simp only [Option.bind_some, nxQ]
  rw [← sgn_wr, sgn_ok]
  simp only [Option.bind_some, nxQ, enQ]
  rw [wb_wr]
  rfl
end Go.Proofs.Ytomolfdcdmncoaa
namespace Go.Proofs.Ytomolfdcdmncoaa
open Go.RowKit Go
set_option linter.unusedVariables false
set_option linter.unusedSimpArgs false
set_option maxRecDepth 100000
/-- Five bytes of a number, the highest first. -/
def e5 (e : Nat) : List UInt8 := [UInt8.ofNat (e / 4294967296), UInt8.ofNat (e / 16777216), UInt8.ofNat (e / 65536), UInt8.ofNat (e / 256), UInt8.ofNat e]
theorem e5_be (e : Nat) (h : e < 8589934592) : beN (e5 e) = e := by
  simp only [e5, beN, List.foldl_cons, List.foldl_nil, UInt8.toNat_ofNat']
  omega
theorem trim_len9 (l : List UInt8) : (trimZ l).length ≤ l.length := by
  induction l with
  | nil => exact Nat.le_refl _
  | cons d r ih =>
    rw [trimZ_cons]
    split
    · simp only [List.length_cons]; omega
    · exact Nat.le_refl _
theorem trim_be9 (l : List UInt8) : beN (trimZ l) = beN l := by
  induction l with
  | nil => rfl
  | cons d r ih =>
    rw [trimZ_cons]
    split
    · rename_i h
      rw [ih]
      simp [beN, h]
    · rfl
theorem putI_len (bs : List UInt8) : (putI bs).length ≤ bs.length + 1 := by
  have h := trim_len9 bs
  unfold putI
  split
  · simp
  · rename_i d r e
    rw [e] at h
    split <;> simp_all <;> omega
def keyB (n : List UInt8) (e : Nat) : List UInt8 := wrQ 2 (putI n) ++ wrQ 2 (putI (e5 e))
def rsaB : List UInt8 := [6, 9, 42, 134, 72, 134, 247, 13, 1, 1, 1, 5, 0]
def spkB (n : List UInt8) (e : Nat) : List UInt8 := wrQ 48 rsaB ++ wrQ 3 (0 :: wrQ 48 (keyB n e))
theorem rsa_ok : meQ (wrQ 48 rsaB, rsaB) 1 = some () := by decide +kernel
theorem keyB_len (n : List UInt8) (e : Nat) (hn : n.length ≤ 100000) : (keyB n e).length ≤ n.length + 100 := by
  have h1 := putI_len n
  have h2 := putI_len (e5 e)
  have h3 := wrQ_len 2 (putI n) (by omega)
  have h4 : (e5 e).length = 5 := rfl
  have h5 := wrQ_len 2 (putI (e5 e)) (by omega)
  unfold keyB
  rw [List.length_append]
  omega
theorem ke_wr (n : List UInt8) (e : Nat) (hn : n.length ≤ 100000) (he : e < 8589934592) : keQ (wrQ 48 (spkB n e), spkB n e) = some (trimZ n, e) := by
  have h1 := putI_len n
  have h2 := putI_len (e5 e)
  have h4 : (e5 e).length = 5 := rfl
  have h5 := keyB_len n e hn
  have h6 := wrQ_len 48 (keyB n e) (by omega)
  have h7 := trim_len9 (e5 e)
  have hb : beN (trimZ (e5 e)) = e := by rw [trim_be9, e5_be e he]
  unfold keQ
  rw [wi_wr 48 _ 48 rfl]
  unfold spkB
  rw [allS (by decide) (by decide) (all1 (by decide) (by simp only [List.length_cons]; omega))]
  simp only [Option.bind_some, nxQ]
  rw [rsa_ok]
  simp only [Option.bind_some, nxQ]
  rw [wb_wr]
  simp only [Option.bind_some]
  rw [si_wr 48 _ (by decide) (by omega)]
  simp only [Option.bind_some, enQ]
  rw [wi_wr 48 _ 48 rfl]
  unfold keyB
  rw [allS (by decide) (by omega) (all1 (by decide) (by omega))]
  simp only [Option.bind_some, nxQ]
  rw [nu_wr]
  simp only [Option.bind_some, nxQ]
  rw [sm_wr _ _ (by omega) (by rw [hb]; exact he)]
  simp only [Option.bind_some, enQ]
  rw [hb]
def basB (path : Option UInt8) : List UInt8 := wrQ 1 [255] ++ (match path with | none => [] | some p => wrQ 2 (putI [p]))
def pathI (path : Option UInt8) : Int := match path with | none => -1 | some p => (p.toNat : Int)
theorem co_wr (path : Option UInt8) : coQ (wrQ 48 (basB path), basB path) = some (true, pathI path) := by
  unfold coQ
  rw [wi_wr 48 _ 48 rfl]
  cases path with
  | none => decide +kernel
  | some p =>
    have h1 := putI_len [p]
    have h2 := trim_len9 [p]
    have h3 : beN (trimZ [p]) = p.toNat := by rw [trim_be9]; simp [beN]
    have h4 := p.toNat_lt
    simp only [List.length_cons, List.length_nil] at h1 h2
    show (allQ (wrQ 1 [255] ++ wrQ 2 (putI [p]))).bind _ = _
    rw [allS (by decide) (by decide) (all1 (by decide) (by omega))]
    simp only [Option.bind_some]
    rw [show itQ (wrQ 1 [255], [255]) = some () by decide +kernel]
    simp only [Option.bind_some]
    rw [sm_wr _ _ (by omega) (by omega)]
    simp only [Option.bind_some, enQ]
    rw [h3]
    rfl
/-- An extension's element, read. -/
theorem ox_wr (oid body : List UInt8) (a : List Nat) (seen : List (List UInt8)) (h : oidQ oid = some a) (hs : ¬ oid ∈ seen) (ho : oid.length ≤ 1000) (hb : body.length ≤ 100000) :
    oxQ (extB oid body, wrQ 6 oid ++ wrQ 4 body) seen = some (oid, a, false, body) := by
  unfold oxQ extB
  rw [wi_wr 48 _ 48 rfl, allS (by decide) (by omega) (all1 (by decide) (by omega))]
  simp only [Option.bind_some, nxQ]
  rw [od_wr a oid h]
  simp only [Option.bind_some]
  rw [gd_yes hs]
  simp only [Option.bind_some]
  rw [tg_wr, if_neg (show ¬ (4 : UInt8).toNat = 1 by decide)]
  simp only [Option.bind_some, nxQ]
  rw [tg_wr, gd_yes (show (4 : UInt8).toNat = 4 from rfl)]
  simp only [Option.bind_some, enQ]
theorem ex19 (c : Xt) (path : Option UInt8) : exQ c [2, 5, 29, 19] false (wrQ 48 (basB path)) = some { c with ca := true, path := pathI path } := by
  have hl : (basB path).length < 4294967296 := by
    unfold basB
    cases path with
    | none => decide
    | some p =>
      have h1 := putI_len [p]
      have h2 := wrQ_len 2 (putI [p]) (by simp at h1; omega)
      simp only [List.length_append, List.length_cons, List.length_nil] at h1 h2 ⊢
      have : (wrQ 1 [255]).length = 3 := by decide
      omega
  unfold exQ
  rw [if_pos rfl, si_wr 48 _ (by decide) hl]
  simp only [Option.bind_some]
  rw [co_wr]
  rfl
theorem usB_len (v : Nat) (hv : v < 512) : (usB v).length ≤ 100 := by
  revert v; decide +kernel
theorem ex15 (c : Xt) (v : Nat) (h0 : 0 < v) (hv : v < 512) : exQ c [2, 5, 29, 15] false (wrQ 3 (usB v)) = some { c with usage := (v : Int) } := by
  have hl := usB_len v hv
  unfold exQ
  rw [if_neg (by decide), if_pos rfl, si_wr 3 _ (by decide) (by omega)]
  simp only [Option.bind_some]
  rw [us_all v hv h0]
  rfl
def codB : List UInt8 := wrQ 6 [43, 6, 1, 5, 5, 7, 3, 1]
theorem ex37 (c : Xt) : exQ c [2, 5, 29, 37] false (wrQ 48 codB) = some { c with code := false } := by
  unfold exQ
  rw [if_neg (by decide), if_neg (by decide), if_pos rfl, show siQ (wrQ 48 codB) = some (wrQ 48 codB, codB) by decide +kernel]
  simp only [Option.bind_some]
  rw [show puQ (wrQ 48 codB, codB) = some false by decide +kernel]
  rfl
end Go.Proofs.Ytomolfdcdmncoaa
namespace Go.Proofs.Ytomolfdcdmncoaa
open Go.RowKit Go
set_option linter.unusedVariables false
set_option linter.unusedSimpArgs false
set_option maxRecDepth 100000
def o19 : List UInt8 := [85, 29, 19]
def o15 : List UInt8 := [85, 29, 15]
def o37 : List UInt8 := [85, 29, 37]
/-- The extensions that a certificate is written with. -/
def exL (ca : Bool) (path : Option UInt8) (us : Option Nat) (code : Bool) : List (List UInt8 × List UInt8) :=
  (if ca then [(o19, wrQ 48 (basB path))] else []) ++ ((match us with | none => [] | some v => [(o15, wrQ 3 (usB v))]) ++ (if code then [] else [(o37, wrQ 48 codB)]))
def elX (p : List UInt8 × List UInt8) : El := (extB p.1 p.2, wrQ 6 p.1 ++ wrQ 4 p.2)
def exF (l : List (List UInt8 × List UInt8)) : List UInt8 := l.flatMap fun p => extB p.1 p.2
def exW (l : List (List UInt8 × List UInt8)) : List UInt8 := if l = [] then [] else wrQ 163 (wrQ 48 (exF l))
theorem elX_len (p : List UInt8 × List UInt8) (h1 : p.1.length ≤ 100) (h2 : p.2.length ≤ 1000) : (wrQ 6 p.1 ++ wrQ 4 p.2).length ≤ 1112 := by
  have a := wrQ_len 6 p.1 (by omega)
  have b := wrQ_len 4 p.2 (by omega)
  rw [List.length_append]
  omega
theorem extB_len (p : List UInt8 × List UInt8) (h1 : p.1.length ≤ 100) (h2 : p.2.length ≤ 1000) : (extB p.1 p.2).length ≤ 1118 := by
  have a := elX_len p h1 h2
  have b := wrQ_len 48 (wrQ 6 p.1 ++ wrQ 4 p.2) (by omega)
  unfold extB
  omega
theorem exF_len : ∀ (l : List (List UInt8 × List UInt8)), (∀ p ∈ l, p.1.length ≤ 100 ∧ p.2.length ≤ 1000) → (exF l).length ≤ 1118 * l.length
  | [], _ => Nat.le_refl _
  | p :: r, h => by
    have h1 := exF_len r (fun q hq => h q (List.mem_cons_of_mem _ hq))
    have h2 := h p (List.mem_cons_self ..)
    have h3 := extB_len p h2.1 h2.2
    have e : exF (p :: r) = extB p.1 p.2 ++ exF r := by simp [exF]
    rw [e, List.length_append, List.length_cons]
    omega
theorem exF_all : ∀ (l : List (List UInt8 × List UInt8)), (∀ p ∈ l, p.1.length ≤ 100 ∧ p.2.length ≤ 1000) → allQ (exF l) = some (l.map elX)
  | [], _ => all_nil
  | p :: r, h => by
    have h2 := h p (List.mem_cons_self ..)
    have h3 := elX_len p h2.1 h2.2
    have e : exF (p :: r) = wrQ 48 (wrQ 6 p.1 ++ wrQ 4 p.2) ++ exF r := by simp [exF, extB]
    rw [e, allS (by decide) (by omega) (exF_all r (fun q hq => h q (List.mem_cons_of_mem _ hq)))]
    rfl
theorem basB_len (path : Option UInt8) : (basB path).length ≤ 100 := by
  unfold basB
  cases path with
  | none => decide
  | some p =>
    have h1 := putI_len [p]
    have h2 := wrQ_len 2 (putI [p]) (by simp at h1; omega)
    simp only [List.length_append, List.length_cons, List.length_nil] at h1 h2 ⊢
    have : (wrQ 1 [255]).length = 3 := by decide
    omega
theorem exL_fit (ca : Bool) (path : Option UInt8) (us : Option Nat) (code : Bool) (hu : ∀ v, us = some v → v < 512) : ∀ p ∈ exL ca path us code, p.1.length ≤ 100 ∧ p.2.length ≤ 1000 := by
  intro p hp
  unfold exL at hp
  rw [List.mem_append, List.mem_append] at hp
  rcases hp with hp | hp | hp
  · split at hp
    · simp only [List.mem_singleton] at hp
      subst hp
      have h1 := basB_len path
      have h2 := wrQ_len 48 (basB path) (by omega)
      exact ⟨by simp [o19], by simp only; omega⟩
    · cases hp
  · split at hp
    · cases hp
    · rename_i v
      simp only [List.mem_singleton] at hp
      subst hp
      have h1 := usB_len v (hu v rfl)
      have h2 := wrQ_len 3 (usB v) (by omega)
      exact ⟨by simp [o15], by simp only; omega⟩
  · split at hp
    · cases hp
    · simp only [List.mem_singleton] at hp
      subst hp
      exact ⟨by decide, by decide +kernel⟩
theorem exL_len (ca : Bool) (path : Option UInt8) (us : Option Nat) (code : Bool) : (exL ca path us code).length ≤ 3 := by
  unfold exL
  cases ca <;> cases us <;> cases code <;> simp
/-- One step over an extension. -/
theorem es_step (oid body : List UInt8) (a : List Nat) (r : List El) (seen : List (List UInt8)) (c c' : Xt) (h : oidQ oid = some a) (hs : ¬ oid ∈ seen) (ho : oid.length ≤ 1000) (hb : body.length ≤ 100000) (he : exQ c a false body = some c') :
    esG (elX (oid, body) :: r) seen c = esG r (oid :: seen) c' := by
  simp only [esG, elX]
  rw [ox_wr oid body a seen h hs ho hb]
  simp only [Option.bind_some]
  rw [he]
  rfl
def usI (us : Option Nat) : Int := match us with | none => -1 | some v => (v : Int)
def xtW (ca : Bool) (path : Option UInt8) (us : Option Nat) (code : Bool) : Xt := ⟨ca, if ca then pathI path else -1, usI us, code⟩
theorem es_wr (ca : Bool) (path : Option UInt8) (us : Option Nat) (code : Bool) (hu : ∀ v, us = some v → 0 < v ∧ v < 512) : esG ((exL ca path us code).map elX) [] xt0 = some (xtW ca path us code) := by
  have hb := basB_len path
  have hb2 := wrQ_len 48 (basB path) (by omega)
  have hc : (wrQ 48 codB).length ≤ 100000 := by decide +kernel
  have s19 : ∀ r c, esG (elX (o19, wrQ 48 (basB path)) :: r) [] c = esG r [o19] { c with ca := true, path := pathI path } := fun r c => es_step o19 _ [2, 5, 29, 19] r [] c _ (by decide +kernel) (by decide) (by decide) (by omega) (ex19 c path)
  have s37 : ∀ r seen c, ¬ o37 ∈ seen → esG (elX (o37, wrQ 48 codB) :: r) seen c = esG r (o37 :: seen) { c with code := false } := fun r seen c hs => es_step o37 _ [2, 5, 29, 37] r seen c _ (by decide +kernel) hs (by decide) hc (ex37 c)
  cases us with
  | none =>
    cases ca <;> cases code <;> simp only [exL, List.map_append, List.map_cons, List.map_nil, List.nil_append, List.append_nil, List.cons_append, if_true, if_false, Bool.false_eq_true, if_neg, not_false_eq_true]
    · rw [s37 _ _ _ (by decide)]; rfl
    · rfl
    · rw [s19, s37 _ _ _ (by decide)]; rfl
    · rw [s19]; rfl
  | some v =>
    obtain ⟨h0, h1⟩ := hu v rfl
    have hl := usB_len v h1
    have hl2 := wrQ_len 3 (usB v) (by omega)
    have s15 : ∀ r seen c, ¬ o15 ∈ seen → esG (elX (o15, wrQ 3 (usB v)) :: r) seen c = esG r (o15 :: seen) { c with usage := (v : Int) } := fun r seen c hs => es_step o15 _ [2, 5, 29, 15] r seen c _ (by decide +kernel) hs (by decide) (by omega) (ex15 c v h0 h1)
    cases ca <;> cases code <;> simp only [exL, List.map_append, List.map_cons, List.map_nil, List.nil_append, List.append_nil, List.cons_append, if_true, if_false, Bool.false_eq_true, if_neg, not_false_eq_true]
    · rw [s15 _ _ _ (by decide), s37 _ _ _ (by decide)]; rfl
    · rw [s15 _ _ _ (by decide)]; rfl
    · rw [s19, s15 _ _ _ (by decide), s37 _ _ _ (by decide)]; rfl
    · rw [s19, s15 _ _ _ (by decide)]; rfl
theorem exs_wr (ca : Bool) (path : Option UInt8) (us : Option Nat) (code : Bool) (hu : ∀ v, us = some v → 0 < v ∧ v < 512) : (allQ (exW (exL ca path us code))).bind exsQ = some (xtW ca path us code) := by
  have hf := exL_fit ca path us code (fun v h => (hu v h).2)
  have hn := exL_len ca path us code
  have hs := es_wr ca path us code hu
  have hl := exF_len _ hf
  have ha := exF_all _ hf
  generalize exL ca path us code = l at *
  unfold exW
  cases l with
  | nil =>
    rw [if_pos rfl, all_nil]
    exact hs
  | cons p r =>
    simp only [List.length_cons] at hn hl
    have hw := wrQ_len 48 (exF (p :: r)) (by omega)
    rw [if_neg (by simp), all1 (by decide) (by omega)]
    simp only [Option.bind_some, exsQ]
    rw [wi_wr 163 _ 163 rfl, all1 (by decide) (by omega)]
    simp only [Option.bind_some, nxQ]
    rw [wi_wr 48 _ 48 rfl, ha]
    simp only [Option.bind_some, List.map_cons, esQ]
    rw [List.map_cons] at hs
    rw [hs]
    rfl
end Go.Proofs.Ytomolfdcdmncoaa
namespace Go.Proofs.Ytomolfdcdmncoaa
open Go.RowKit Go
set_option linter.unusedVariables false
set_option linter.unusedSimpArgs false
set_option maxRecDepth 100000
def spanB (f t : Tm) : List UInt8 := wrQ 24 (textB f) ++ wrQ 24 (textB t)
/-- The body of a signed part, as the document writes it. -/
def tbB (ser ib : List UInt8) (f t : Tm) (sb n : List UInt8) (e : Nat) (X : List UInt8) : List UInt8 :=
  wrQ 160 [2, 1, 2] ++ (wrQ 2 ser ++ (sgnB ++ (wrQ 48 ib ++ (wrQ 48 (spanB f t) ++ (wrQ 48 sb ++ (wrQ 48 (spkB n e) ++ X))))))
def sgnI : List UInt8 := [6, 9, 42, 134, 72, 134, 247, 13, 1, 1, 11, 5, 0]
theorem spanB_len (f t : Tm) : (spanB f t).length ≤ 100 := by
  have a := wrQ_len 24 (textB f) (by rw [text_len]; omega)
  have b := wrQ_len 24 (textB t) (by rw [text_len]; omega)
  rw [text_len] at a b
  unfold spanB
  rw [List.length_append]
  omega
theorem spkB_len (n : List UInt8) (e : Nat) (hn : n.length ≤ 50000) : (spkB n e).length ≤ n.length + 200 := by
  have h5 := keyB_len n e (by omega)
  have h6 := wrQ_len 48 (keyB n e) (by omega)
  have h7 := wrQ_len 3 (0 :: wrQ 48 (keyB n e)) (by simp only [List.length_cons]; omega)
  have h8 : (wrQ 48 rsaB).length = 15 := by decide +kernel
  simp only [List.length_cons] at h7
  unfold spkB
  rw [List.length_append]
  omega
theorem tb_all (ser ib : List UInt8) (f t : Tm) (sb n : List UInt8) (e : Nat) (X : List UInt8) (xl : List El) (hX : allQ X = some xl) (h1 : ser.length ≤ 10000) (h2 : ib.length ≤ 10000) (h3 : sb.length ≤ 10000) (h4 : n.length ≤ 10000) :
    allQ (tbB ser ib f t sb n e X) = some ((wrQ 160 [2, 1, 2], [2, 1, 2]) :: (wrQ 2 ser, ser) :: (wrQ 48 sgnI, sgnI) :: (wrQ 48 ib, ib) :: (wrQ 48 (spanB f t), spanB f t) :: (wrQ 48 sb, sb) :: (wrQ 48 (spkB n e), spkB n e) :: xl) := by
  have a := spanB_len f t
  have b := spkB_len n e (by omega)
  have c : sgnI.length = 13 := rfl
  unfold tbB
  rw [show sgnB = wrQ 48 sgnI from sgn_wr]
  exact allS (by decide) (by decide) (allS (by decide) (by omega) (allS (by decide) (by omega) (allS (by decide) (by omega) (allS (by decide) (by omega) (allS (by decide) (by omega) (allS (by decide) (by omega) hX))))))
theorem tb_wr (ser ib : List UInt8) (f t : Tm) (sb n : List UInt8) (e : Nat) (ca : Bool) (path : Option UInt8) (us : Option Nat) (code : Bool) (hser : seQ (wrQ 2 ser, ser) = some ser)
    (h1 : ser.length ≤ 10000) (h2 : ib.length ≤ 10000) (h3 : sb.length ≤ 10000) (h4 : n.length ≤ 10000) (he : e < 8589934592) (hf : rightB f = true) (ht : rightB t = true) (hl : lessB t f = false) (hu : ∀ v, us = some v → 0 < v ∧ v < 512) :
    tbQ (wrQ 48 (tbB ser ib f t sb n e (exW (exL ca path us code))), tbB ser ib f t sb n e (exW (exL ca path us code))) =
      some ⟨[], [], wrQ 48 ib, wrQ 48 sb, ser, f, t, trimZ n, e, [], ca, if ca then pathI path else -1, usI us, code⟩ := by
  have hx := exs_wr ca path us code hu
  cases hX : allQ (exW (exL ca path us code)) with
  | none => rw [hX] at hx; cases hx
  | some xl =>
    rw [hX] at hx
    simp only [Option.bind_some] at hx
    unfold tbQ
    rw [wi_wr 48 _ 48 rfl, tb_all ser ib f t sb n e _ xl hX h1 h2 h3 h4]
    simp only [Option.bind_some, nxQ]
    rw [show wiQ (wrQ 160 [2, 1, 2], [2, 1, 2]) 160 = some [([2, 1, 2], [2])] by decide +kernel]
    simp only [Option.bind_some, nxQ]
    rw [show smQ ([2, 1, 2], [2]) 3 = some 2 by decide +kernel]
    simp only [Option.bind_some, enQ]
    rw [gd_yes trivial]
    simp only [Option.bind_some, nxQ]
    rw [hser]
    simp only [Option.bind_some, nxQ]
    rw [show meQ (wrQ 48 sgnI, sgnI) 11 = some () by decide +kernel]
    simp only [Option.bind_some, nxQ]
    rw [an_wr]
    simp only [Option.bind_some, nxQ]
    rw [show spQ (wrQ 48 (spanB f t), spanB f t) = some (f, t) from sp_wr f t hf ht hl]
    simp only [Option.bind_some, nxQ]
    rw [an_wr]
    simp only [Option.bind_some, nxQ]
    rw [ke_wr n e (by omega) he]
    simp only [Option.bind_some]
    rw [hx]
    rfl
/-- An element that is well built so deep. -/
theorem chk_in (k : Nat) (t : UInt8) (a : List UInt8) (l : List El) (ha : allQ a = some l) (h : ∀ p ∈ l, chk k p.1 p.2 = 0) : chk (k + 1) (wrQ t a) a = 0 := by
  simp only [chk]
  split
  · rfl
  · rw [ha]
    exact firstN_zero (by
      intro x hx
      obtain ⟨p, hp, rfl⟩ := List.mem_map.1 hx
      exact h p hp)
theorem chk_flat (k : Nat) (t : UInt8) (a : List UInt8) (ht : t.toNat / 32 % 2 = 0) : chk k (wrQ t a) a = 0 := chk_leaf k (.inl (by rw [nth_wr9]; exact ht))
theorem chk_ex (k : Nat) (p : List UInt8 × List UInt8) (h1 : p.1.length ≤ 100) (h2 : p.2.length ≤ 1000) : chk (k + 1) (elX p).1 (elX p).2 = 0 := by
  refine chk_in k 48 _ [(wrQ 6 p.1, p.1), (wrQ 4 p.2, p.2)] (allS (by decide) (by omega) (all1 (by decide) (by omega))) ?_
  intro q hq
  simp only [List.mem_cons, List.not_mem_nil, or_false] at hq
  rcases hq with rfl | rfl
  · exact chk_flat k 6 _ (by decide)
  · exact chk_flat k 4 _ (by decide)
theorem chk_X (k : Nat) (l : List (List UInt8 × List UInt8)) (hn : l.length ≤ 3) (hf : ∀ p ∈ l, p.1.length ≤ 100 ∧ p.2.length ≤ 1000) (xl : List El) (hX : allQ (exW l) = some xl) : ∀ p ∈ xl, chk (k + 3) p.1 p.2 = 0 := by
  have hl := exF_len l hf
  have hw := wrQ_len 48 (exF l) (by omega)
  unfold exW at hX
  split at hX
  · rw [all_nil] at hX
    cases hX
    intro p hp
    cases hp
  · rw [all1 (by decide) (by omega)] at hX
    cases hX
    intro p hp
    rw [List.mem_singleton] at hp
    subst hp
    refine chk_in (k + 2) 163 _ [(wrQ 48 (exF l), exF l)] (all1 (by decide) (by omega)) ?_
    intro q hq
    rw [List.mem_singleton] at hq
    subst hq
    refine chk_in (k + 1) 48 _ _ (exF_all l hf) ?_
    intro r hr
    obtain ⟨s, hs, rfl⟩ := List.mem_map.1 hr
    exact chk_ex k s (hf s hs).1 (hf s hs).2
end Go.Proofs.Ytomolfdcdmncoaa
namespace Go.Proofs.Ytomolfdcdmncoaa
open Go.RowKit Go
set_option linter.unusedVariables false
set_option linter.unusedSimpArgs false
set_option maxRecDepth 100000
theorem chk_rsa (k : Nat) : chk (k + 1) (wrQ 48 rsaB) rsaB = 0 := by
  refine chk_in k 48 rsaB [(wrQ 6 [42, 134, 72, 134, 247, 13, 1, 1, 1], [42, 134, 72, 134, 247, 13, 1, 1, 1]), (wrQ 5 [], [])] (by decide +kernel) ?_
  intro q hq
  simp only [List.mem_cons, List.not_mem_nil, or_false] at hq
  rcases hq with rfl | rfl
  · dsimp only
    exact chk_flat k 6 _ (by decide)
  · dsimp only
    exact chk_flat k 5 _ (by decide)
theorem chk_sgn (k : Nat) : chk (k + 1) (wrQ 48 sgnI) sgnI = 0 := by
  refine chk_in k 48 sgnI [(wrQ 6 [42, 134, 72, 134, 247, 13, 1, 1, 11], [42, 134, 72, 134, 247, 13, 1, 1, 11]), (wrQ 5 [], [])] (by decide +kernel) ?_
  intro q hq
  simp only [List.mem_cons, List.not_mem_nil, or_false] at hq
  rcases hq with rfl | rfl
  · dsimp only
    exact chk_flat k 6 _ (by decide)
  · dsimp only
    exact chk_flat k 5 _ (by decide)
theorem chk_ver (k : Nat) : chk (k + 1) (wrQ 160 [2, 1, 2]) [2, 1, 2] = 0 := by
  refine chk_in k 160 [2, 1, 2] [(wrQ 2 [2], [2])] (by decide +kernel) ?_
  intro q hq
  rw [List.mem_singleton] at hq
  subst hq
  dsimp only
  exact chk_flat k 2 _ (by decide)
theorem chk_spk (k : Nat) (n : List UInt8) (e : Nat) (hn : n.length ≤ 10000) : chk (k + 2) (wrQ 48 (spkB n e)) (spkB n e) = 0 := by
  have h5 := keyB_len n e (by omega)
  have h6 := wrQ_len 48 (keyB n e) (by omega)
  refine chk_in (k + 1) 48 _ [(wrQ 48 rsaB, rsaB), (wrQ 3 (0 :: wrQ 48 (keyB n e)), 0 :: wrQ 48 (keyB n e))] (allS (by decide) (by decide) (all1 (by decide) (by simp only [List.length_cons]; omega))) ?_
  intro q hq
  simp only [List.mem_cons, List.not_mem_nil, or_false] at hq
  rcases hq with rfl | rfl
  · exact chk_rsa k
  · dsimp only
    exact chk_flat (k + 1) 3 _ (by decide)
theorem chk_span (k : Nat) (f t : Tm) : chk (k + 1) (wrQ 48 (spanB f t)) (spanB f t) = 0 := by
  refine chk_in k 48 _ [(wrQ 24 (textB f), textB f), (wrQ 24 (textB t), textB t)] (allS (by decide) (by rw [text_len]; omega) (all1 (by decide) (by rw [text_len]; omega))) ?_
  intro q hq
  simp only [List.mem_cons, List.not_mem_nil, or_false] at hq
  rcases hq with rfl | rfl
  · dsimp only
    exact chk_flat k 24 _ (by decide)
  · dsimp only
    exact chk_flat k 24 _ (by decide)
theorem chk_tb (k : Nat) (ser ib : List UInt8) (f t : Tm) (sb n : List UInt8) (e : Nat) (l : List (List UInt8 × List UInt8)) (hn : l.length ≤ 3) (hfit : ∀ p ∈ l, p.1.length ≤ 100 ∧ p.2.length ≤ 1000)
    (h1 : ser.length ≤ 10000) (h2 : ib.length ≤ 10000) (h3 : sb.length ≤ 10000) (h4 : n.length ≤ 10000) (hi : chk (k + 3) (wrQ 48 ib) ib = 0) (hs : chk (k + 3) (wrQ 48 sb) sb = 0) :
    chk (k + 4) (wrQ 48 (tbB ser ib f t sb n e (exW l))) (tbB ser ib f t sb n e (exW l)) = 0 := by
  have hX : ∃ xl, allQ (exW l) = some xl := by
    have hl := exF_len l hfit
    have hw := wrQ_len 48 (exF l) (by omega)
    unfold exW
    split
    · exact ⟨[], all_nil⟩
    · exact ⟨_, all1 (by decide) (by omega)⟩
  obtain ⟨xl, hX⟩ := hX
  refine chk_in (k + 3) 48 _ _ (tb_all ser ib f t sb n e _ xl hX h1 h2 h3 h4) ?_
  intro q hq
  simp only [List.mem_cons] at hq
  rcases hq with rfl | rfl | rfl | rfl | rfl | rfl | rfl | hq
  · exact chk_ver (k + 2)
  · dsimp only
    exact chk_flat (k + 3) 2 _ (by decide)
  · exact chk_sgn (k + 2)
  · exact hi
  · exact chk_span (k + 2) f t
  · exact hs
  · exact chk_spk (k + 1) n e h4
  · exact chk_X k l hn hfit xl hX q hq
theorem exW_len (l : List (List UInt8 × List UInt8)) (hn : l.length ≤ 3) (hf : ∀ p ∈ l, p.1.length ≤ 100 ∧ p.2.length ≤ 1000) : (exW l).length ≤ 4000 := by
  have hl := exF_len l hf
  have hw := wrQ_len 48 (exF l) (by omega)
  have hw2 := wrQ_len 163 (wrQ 48 (exF l)) (by omega)
  unfold exW
  split
  · exact Nat.zero_le _
  · omega
theorem tbB_len (ser ib : List UInt8) (f t : Tm) (sb n : List UInt8) (e : Nat) (X : List UInt8) (h1 : ser.length ≤ 10000) (h2 : ib.length ≤ 10000) (h3 : sb.length ≤ 10000) (h4 : n.length ≤ 10000) (hX : X.length ≤ 4000) : (tbB ser ib f t sb n e X).length ≤ 50000 := by
  have a := wrQ_len 2 ser (by omega)
  have b := wrQ_len 48 ib (by omega)
  have c := wrQ_len 48 sb (by omega)
  have d := spanB_len f t
  have d2 := wrQ_len 48 (spanB f t) (by omega)
  have g := spkB_len n e (by omega)
  have g2 := wrQ_len 48 (spkB n e) (by omega)
  have p : (wrQ 160 [2, 1, 2]).length = 5 := by decide +kernel
  have q : sgnB.length = 15 := rfl
  unfold tbB
  simp only [List.length_append]
  omega
/-- What the document writes of a certificate is read as it was. -/
theorem cert_wr (ser ib : List UInt8) (f t : Tm) (sb n : List UInt8) (e : Nat) (ca : Bool) (path : Option UInt8) (us : Option Nat) (code : Bool) (sig : List UInt8) (hser : seQ (wrQ 2 ser, ser) = some ser)
    (h1 : ser.length ≤ 10000) (h2 : ib.length ≤ 10000) (h3 : sb.length ≤ 10000) (h4 : n.length ≤ 10000) (h5 : sig.length ≤ 10000) (he : e < 8589934592) (hf : rightB f = true) (ht : rightB t = true) (hl : lessB t f = false) (hu : ∀ v, us = some v → 0 < v ∧ v < 512)
    (hi : chk 13 (wrQ 48 ib) ib = 0) (hs : chk 13 (wrQ 48 sb) sb = 0) (T : List UInt8) (hT : T = wrQ 48 (tbB ser ib f t sb n e (exW (exL ca path us code)))) (hlen : (certB T sig).length ≤ 8192) :
    certQ (certB T sig) = .inr ⟨certB T sig, T, wrQ 48 ib, wrQ 48 sb, ser, f, t, trimZ n, e, sig, ca, if ca then pathI path else -1, usI us, code⟩ := by
  have hn := exL_len ca path us code
  have hfit := exL_fit ca path us code (fun v h => (hu v h).2)
  have hx := exW_len _ hn hfit
  have hb := tbB_len ser ib f t sb n e _ h1 h2 h3 h4 hx
  have hw := wrQ_len 48 (tbB ser ib f t sb n e (exW (exL ca path us code))) (by omega)
  have hw3 := wrQ_len 3 (0 :: sig) (by simp only [List.length_cons]; omega)
  simp only [List.length_cons] at hw3
  have hcl : (T ++ (sgnB ++ wrQ 3 (0 :: sig))).length < 4294967296 := by
    rw [hT]
    simp only [List.length_append]
    have : sgnB.length = 15 := rfl
    omega
  have hchk : checkQ (certB T sig) = 0 := by
    unfold certB
    rw [check_wr9 48 (by decide) _ hcl]
    refine chk_in 14 48 _ [(wrQ 48 (tbB ser ib f t sb n e (exW (exL ca path us code))), tbB ser ib f t sb n e (exW (exL ca path us code))), (wrQ 48 sgnI, sgnI), (wrQ 3 (0 :: sig), 0 :: sig)] ?_ ?_
    · rw [hT, show sgnB = wrQ 48 sgnI from sgn_wr]
      exact allS (by decide) (by omega) (allS (by decide) (by decide) (all1 (by decide) (by simp only [List.length_cons]; omega)))
    · intro q hq
      simp only [List.mem_cons, List.not_mem_nil, or_false] at hq
      rcases hq with rfl | rfl | rfl
      · exact chk_tb 10 ser ib f t sb n e _ hn hfit h1 h2 h3 h4 hi hs
      · exact chk_sgn 13
      · dsimp only
        exact chk_flat 14 3 _ (by decide)
  have hwh := wh_wr _ sig _ (by omega) (by omega) (tb_wr ser ib f t sb n e ca path us code hser h1 h2 h3 h4 he hf ht hl hu)
  unfold certQ
  rw [if_neg (by omega), if_neg (by rw [hchk]; decide)]
  rw [← hT] at hwh
  rw [hwh]
/-- A written name is well built. -/
theorem nameB_is (s : List UInt8) : nameB s = wrQ 48 (wrQ 49 (wrQ 48 (wrQ 6 [85, 4, 3] ++ wrQ 12 s))) := rfl
theorem chk_name (s : List UInt8) (hs : s.length ≤ 10000) : chk 13 (nameB s) (wrQ 49 (wrQ 48 (wrQ 6 [85, 4, 3] ++ wrQ 12 s))) = 0 := by
  have a := wrQ_len 12 s (by omega)
  have a2 : (wrQ 6 [85, 4, 3]).length = 5 := by decide +kernel
  have b := wrQ_len 48 (wrQ 6 [85, 4, 3] ++ wrQ 12 s) (by rw [List.length_append]; omega)
  rw [List.length_append] at b
  have c := wrQ_len 49 (wrQ 48 (wrQ 6 [85, 4, 3] ++ wrQ 12 s)) (by omega)
  refine chk_in 12 48 _ [(wrQ 49 (wrQ 48 (wrQ 6 [85, 4, 3] ++ wrQ 12 s)), wrQ 48 (wrQ 6 [85, 4, 3] ++ wrQ 12 s))] (all1 (by decide) (by omega)) ?_
  intro q hq
  rw [List.mem_singleton] at hq
  subst hq
  refine chk_in 11 49 _ [(wrQ 48 (wrQ 6 [85, 4, 3] ++ wrQ 12 s), wrQ 6 [85, 4, 3] ++ wrQ 12 s)] (all1 (by decide) (by rw [List.length_append]; omega)) ?_
  intro q hq
  rw [List.mem_singleton] at hq
  subst hq
  refine chk_in 10 48 _ [(wrQ 6 [85, 4, 3], [85, 4, 3]), (wrQ 12 s, s)] (allS (by decide) (by decide) (all1 (by decide) (by omega))) ?_
  intro q hq
  simp only [List.mem_cons, List.not_mem_nil, or_false] at hq
  rcases hq with rfl | rfl
  · dsimp only
    exact chk_flat 10 6 _ (by decide)
  · dsimp only
    exact chk_flat 10 12 _ (by decide)
/-- A number that is put serves as a serial number. -/
theorem se_wr (bs : List UInt8) (h : 0 < (trimZ bs).length) (hl : bs.length ≤ 19) : seQ (wrQ 2 (putI bs), putI bs) = some (putI bs) := by
  have := putI_len bs
  unfold seQ
  rw [nu_wr]
  simp only [Option.bind_some]
  rw [gd_yes ⟨h, by omega⟩]
  rfl
end Go.Proofs.Ytomolfdcdmncoaa
namespace Go.Proofs.Ytomolfdcdmncoaa
open Go.RowKit Go
set_option linter.unusedVariables false
set_option linter.unusedSimpArgs false
set_option maxRecDepth 100000
/-- What lies in an extension of the statements. -/
def inO (oid : List UInt8) (crit : Bool) (body : List UInt8) : List UInt8 := wrQ 6 oid ++ ((if crit then [1, 1, 255] else []) ++ wrQ 4 body)
theorem extO_is (oid : List UInt8) (crit : Bool) (body : List UInt8) : extO oid crit body = wrQ 48 (inO oid crit body) := rfl
theorem one_is : ([1, 1, 255] : List UInt8) = wrQ 1 [255] := by decide +kernel
theorem inO_len (oid : List UInt8) (crit : Bool) (body : List UInt8) (ho : oid.length ≤ 1000) (hb : body.length ≤ 100000) : (inO oid crit body).length ≤ oid.length + body.length + 20 := by
  have a := wrQ_len 6 oid (by omega)
  have b := wrQ_len 4 body (by omega)
  unfold inO
  cases crit <;> simp only [List.length_append, List.length_cons, List.length_nil, if_true, if_false, Bool.false_eq_true] <;> omega
theorem inO_all (oid : List UInt8) (crit : Bool) (body : List UInt8) (ho : oid.length ≤ 1000) (hb : body.length ≤ 100000) :
    allQ (inO oid crit body) = some ((wrQ 6 oid, oid) :: ((if crit then [(wrQ 1 [255], [255])] else []) ++ [(wrQ 4 body, body)])) := by
  unfold inO
  cases crit
  · simp only [if_false, Bool.false_eq_true, List.nil_append]
    exact allS (by decide) (by omega) (all1 (by decide) (by omega))
  · simp only [if_true]
    rw [one_is]
    exact allS (by decide) (by omega) (allS (by decide) (by decide) (all1 (by decide) (by omega)))
/-- An extension's element, read, critical or not. -/
theorem oxO_wr (oid : List UInt8) (crit : Bool) (body : List UInt8) (a : List Nat) (seen : List (List UInt8)) (h : oidQ oid = some a) (hs : ¬ oid ∈ seen) (ho : oid.length ≤ 1000) (hb : body.length ≤ 100000) :
    oxQ (extO oid crit body, inO oid crit body) seen = some (oid, a, crit, body) := by
  unfold oxQ
  rw [extO_is, wi_wr 48 _ 48 rfl, inO_all oid crit body ho hb]
  simp only [Option.bind_some, nxQ]
  rw [od_wr a oid h]
  simp only [Option.bind_some]
  rw [gd_yes hs]
  simp only [Option.bind_some]
  cases crit
  · simp only [if_false, Bool.false_eq_true, List.nil_append]
    rw [tg_wr, if_neg (show ¬ (4 : UInt8).toNat = 1 by decide)]
    simp only [Option.bind_some, nxQ]
    rw [tg_wr, gd_yes (show (4 : UInt8).toNat = 4 from rfl)]
    simp only [Option.bind_some, enQ]
  · simp only [if_true, List.cons_append, List.nil_append]
    rw [tg_wr, if_pos (show (1 : UInt8).toNat = 1 from rfl), show itQ (wrQ 1 [255], [255]) = some () by decide +kernel]
    simp only [Option.bind_some, nxQ]
    rw [tg_wr, gd_yes (show (4 : UInt8).toNat = 4 from rfl)]
    simp only [Option.bind_some, enQ]
/-- An identifier that came before: no certificate. -/
theorem oxO_twice (oid : List UInt8) (crit : Bool) (body : List UInt8) (seen : List (List UInt8)) (hs : oid ∈ seen) (ho : oid.length ≤ 1000) (hb : body.length ≤ 100000) :
    oxQ (extO oid crit body, inO oid crit body) seen = none := by
  unfold oxQ
  rw [extO_is, wi_wr 48 _ 48 rfl, inO_all oid crit body ho hb]
  simp only [Option.bind_some, nxQ]
  cases h : odQ (wrQ 6 oid, oid) with
  | none => rfl
  | some a =>
    simp only [Option.bind_some]
    rw [gd_no (fun h => h hs)]
    rfl
theorem ex_other (c : Xt) (a : List Nat) (crit : Bool) (body : List UInt8) (h1 : a ≠ [2, 5, 29, 19]) (h2 : a ≠ [2, 5, 29, 15]) (h3 : a ≠ [2, 5, 29, 37]) : exQ c a crit body = if crit then none else some c := by
  unfold exQ
  rw [if_neg h1, if_neg h2, if_neg h3]
/-- One step over an extension that nothing is known of. -/
theorem es_other (oid : List UInt8) (crit : Bool) (body : List UInt8) (a : List Nat) (r : List El) (seen : List (List UInt8)) (c : Xt) (h : oidQ oid = some a) (hs : ¬ oid ∈ seen) (ho : oid.length ≤ 1000) (hb : body.length ≤ 100000)
    (h1 : a ≠ [2, 5, 29, 19]) (h2 : a ≠ [2, 5, 29, 15]) (h3 : a ≠ [2, 5, 29, 37]) : esG ((extO oid crit body, inO oid crit body) :: r) seen c = if crit then none else esG r (oid :: seen) c := by
  simp only [esG]
  rw [oxO_wr oid crit body a seen h hs ho hb]
  simp only [Option.bind_some]
  rw [ex_other c a crit body h1 h2 h3]
  cases crit <;> rfl
theorem es_twice (oid : List UInt8) (crit : Bool) (body : List UInt8) (r : List El) (seen : List (List UInt8)) (c : Xt) (hs : oid ∈ seen) (ho : oid.length ≤ 1000) (hb : body.length ≤ 100000) : esG ((extO oid crit body, inO oid crit body) :: r) seen c = none := by
  simp only [esG]
  rw [oxO_twice oid crit body seen hs ho hb]
  rfl
end Go.Proofs.Ytomolfdcdmncoaa
namespace Go.Proofs.Ytomolfdcdmncoaa
open Go.RowKit Go
set_option linter.unusedVariables false
set_option linter.unusedSimpArgs false
set_option maxRecDepth 100000
set_option maxHeartbeats 4000000 in
theorem same12_yes (a b : Nat → S3) (r : Nat → List UInt8) (f t : Tm) (e : Nat) (x : Xt) (w : World) (ha : ∀ k, k < 7 → RB w (a k).1 (a k).2.1 (r k)) (hb : ∀ k, k < 7 → RB w (b k).1 (b k).2.1 (r k)) :
    Calls Try.prog 16 #[.agg (certC (a 0) (a 1) (a 2) (a 3) (a 4) f t (a 5) e (a 6) x), .agg (certC (b 0) (b 1) (b 2) (b 3) (b 4) f t (b 5) e (b 6) x)] w fun e' w' => e' = .returned (.bool true) ∧ Below w.heap.size w w' := by
  have HA := Lib.hid ha
  have HB := Lib.hid hb
  clear ha hb
  have HEF : ∀ W, (Op.equalIn 10000 25 (.agg f.cells) (.agg f.cells)).run Try.prog W = .ok true W := fun W => (tm_same f f W 9998).trans (by simp)
  have HET : ∀ W, (Op.equalIn 10000 25 (.agg t.cells) (.agg t.cells)).run Try.prog W = .ok true W := fun W => (tm_same t t W 9998).trans (by simp)
  obtain ⟨fy, fmo, fd, fh, fmi, fs⟩ := f
  obtain ⟨ty, tmo, td, th, tmi, ts⟩ := t
  obtain ⟨xca, xpath, xus, xcode⟩ := x
  simp only [certC, Tm.cells] at *
  go_enter Try.func16, Try.ntmps16
  go_wp2
  refine wp_named fun W1 hW1 => ?_
  have hbw : Below w.heap.size w W1 := below_named hW1 (kp_alloc (kp_alloc (kp_alloc (kp_alloc (Below.refl _ _) _) _) _) _)
  have k0 := heap_named hW1 (has_alloc (has_alloc (has_alloc (has_new _ _) _) _) _)
  have k1 := heap_named hW1 (has_alloc (has_alloc (has_new' _ _ (w.heap.size + 1) (by simp)) _) _)
  have k5 := heap_named hW1 (has_alloc (has_new' _ _ (w.heap.size + 2) (by simp)) _)
  have k6 := heap_named hW1 (has_new' _ _ (w.heap.size + 3) (by simp))
  have HK0 := Lib.hid k0
  have HK1 := Lib.hid k1
  have HC : Hid (∀ (W : World), Below W1.heap.size W1 W → ∀ k, k < 7 → W.cell? ⟨w.heap.size + 2, k, none⟩ = some (sv (a k)) ∧ W.cell? ⟨w.heap.size + 3, k, none⟩ = some (sv (b k))) := fun W hW => by
    have j5 := has_below k5 hW
    have j6 := has_below k6 hW
    refine seven ?_ ?_ ?_ ?_ ?_ ?_ ?_
    · exact ⟨Lib.cell_of_heap j5 0, Lib.cell_of_heap j6 0⟩
    · exact ⟨Lib.cell_of_heap j5 1, Lib.cell_of_heap j6 1⟩
    · exact ⟨Lib.cell_of_heap j5 2, Lib.cell_of_heap j6 2⟩
    · exact ⟨Lib.cell_of_heap j5 3, Lib.cell_of_heap j6 3⟩
    · exact ⟨Lib.cell_of_heap j5 4, Lib.cell_of_heap j6 4⟩
    · exact ⟨Lib.cell_of_heap j5 5, Lib.cell_of_heap j6 5⟩
    · exact ⟨Lib.cell_of_heap j5 6, Lib.cell_of_heap j6 6⟩
  have HBW := Lib.hid hbw
  clear k0 k1 k5 k6 hW1 hbw
  go_loopw [7] (fun i wr => ∃ k, k ≤ 7 ∧ i = .int .i64 (k : Nat) ∧ Below W1.heap.size W1 wr) (fun i _ => 7 - (intOf i).toNat)
  case atStart => exact ⟨0, by omega, rfl, Below.refl _ _⟩
  case round =>
    obtain ⟨k, hk, rfl, hbr⟩ := hrel
    by_cases hlt : k < 7
    · obtain ⟨c1, c2⟩ := HC.out wr hbr k hlt
      have r1 := (HA.out k hlt).below (HBW.out.trans (hbr.mono HBW.out.size))
      have r2 := (HB.out k hlt).below (HBW.out.trans (hbr.mono HBW.out.size))
      have q2 : (0 : Int) ≤ (k : Int) := by omega
      have q3 : (k : Int) < 7 := by omega
      have HBR := Lib.hid hbr
      generalize a k = sa at *
      generalize b k = sb at *
      obtain ⟨A1, n1, d1⟩ := sa
      obtain ⟨A2, n2, d2⟩ := sb
      simp only [sv] at c1 c2 r1 r2
      have E : Hid (∀ m, Calls Try.prog 17 #[.slice A1 n1 d1, .slice A2 n2 d2] (wr.drewN m) fun e w' => e = .returned (.bool true) ∧ w' = wr.drewN m) := fun m => (eq_any A1 A2 n1 n2 d1 d2 (r k) (r k) (wr.drewN m) r1 r2).mono fun _ _ ⟨x, y⟩ => ⟨by rw [x]; simp, y.symm⟩
      clear r1 r2 hbr
      go_wp2
      go_quiet ((go_at_call 17; exact Calls.quiet_of_same (E.out _)))
      go_wp2
      go_roundw
      case rel => exact ⟨k + 1, by omega, by go_num, below_drewN HBR.out _⟩
      case measure => simp [intOf]; omega
    · obtain rfl : k = 7 := by omega
      have j0 := has_below HK0.out hbr
      have j1 := has_below HK1.out hbr
      have m0_5 := Lib.cell_of_heap j0 5
      have m0_6 := Lib.cell_of_heap j0 6
      have m0_7 := Lib.cell_of_heap j0 7
      have m0_8 := Lib.cell_of_heap j0 8
      have m0_9 := Lib.cell_of_heap j0 9
      have m0_10 := Lib.cell_of_heap j0 10
      have m0_11 := Lib.cell_of_heap j0 11
      have m0_12 := Lib.cell_of_heap j0 12
      have m0_13 := Lib.cell_of_heap j0 13
      have m0_14 := Lib.cell_of_heap j0 14
      have m0_15 := Lib.cell_of_heap j0 15
      have m0_16 := Lib.cell_of_heap j0 16
      have m0_18 := Lib.cell_of_heap j0 18
      have m0_20 := Lib.cell_of_heap j0 20
      have m0_21 := Lib.cell_of_heap j0 21
      have m0_22 := Lib.cell_of_heap j0 22
      have m0_23 := Lib.cell_of_heap j0 23
      have m1_5 := Lib.cell_of_heap j1 5
      have m1_6 := Lib.cell_of_heap j1 6
      have m1_7 := Lib.cell_of_heap j1 7
      have m1_8 := Lib.cell_of_heap j1 8
      have m1_9 := Lib.cell_of_heap j1 9
      have m1_10 := Lib.cell_of_heap j1 10
      have m1_11 := Lib.cell_of_heap j1 11
      have m1_12 := Lib.cell_of_heap j1 12
      have m1_13 := Lib.cell_of_heap j1 13
      have m1_14 := Lib.cell_of_heap j1 14
      have m1_15 := Lib.cell_of_heap j1 15
      have m1_16 := Lib.cell_of_heap j1 16
      have m1_18 := Lib.cell_of_heap j1 18
      have m1_20 := Lib.cell_of_heap j1 20
      have m1_21 := Lib.cell_of_heap j1 21
      have m1_22 := Lib.cell_of_heap j1 22
      have m1_23 := Lib.cell_of_heap j1 23
      have HBR := Lib.hid hbr
      clear hbr j0 j1
      go_wp2
      go_ret
      exact ⟨rfl, HBW.out.trans (HBR.out.mono HBW.out.size)⟩
end Go.Proofs.Ytomolfdcdmncoaa

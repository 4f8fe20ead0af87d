/-
  der: check, and Check.
-/
import Derived.Test.YtamkbedbkjndgaaDrI
namespace Go.Proofs.Ytamkbedbkjndgaa
open Go.RowKit Go
set_option linter.unusedVariables false
set_option maxRecDepth 100000
/-- The first of numbers that is not nought. -/
def firstN : List Nat → Nat
  | [] => 0
  | x :: r => if x = 0 then firstN r else x
theorem firstN_zero {l : List Nat} (h : ∀ x ∈ l, x = 0) : firstN l = 0 := by
  induction l with
  | nil => rfl
  | cons x r ih => simp only [firstN]; rw [if_pos (h x (by simp)), ih (fun y hy => h y (by simp [hy]))]
theorem firstN_at : ∀ (l : List Nat) (j : Nat) (x : Nat), l[j]? = some x → x ≠ 0 → (∀ i y, i < j → l[i]? = some y → y = 0) → firstN l = x
  | [], _, _, h, _, _ => by simp at h
  | z :: r, 0, x, h, hx, _ => by
    simp at h
    subst h
    simp only [firstN]
    rw [if_neg hx]
  | z :: r, j + 1, x, h, hx, hp => by
    simp only [firstN]
    rw [if_pos (hp 0 z (by omega) rfl)]
    exact firstN_at r j x h hx (fun i y hi hy => hp (i + 1) y (by omega) hy)
/-- What is said of an element that lies so deep that k more may lie in one another within it. -/
def chk : Nat → List UInt8 → List UInt8 → Nat
  | 0, raw, body => if nth raw 0 / 32 % 2 = 0 ∨ body = [] then 0 else 10
  | k + 1, raw, body => if nth raw 0 / 32 % 2 = 0 ∨ body = [] then 0 else match allQ body with
    | none => 9
    | some l => firstN (l.map fun p => chk k p.1 p.2)
theorem chk_leaf (k : Nat) {raw body : List UInt8} (h : nth raw 0 / 32 % 2 = 0 ∨ body = []) : chk k raw body = 0 := by
  cases k <;> (simp only [chk]; rw [if_pos h])
theorem chk_bottom {raw body : List UInt8} (h : ¬ (nth raw 0 / 32 % 2 = 0 ∨ body = [])) : chk 0 raw body = 10 := by
  simp only [chk]; rw [if_neg h]
theorem chk_none {k : Nat} {raw body : List UInt8} (h : ¬ (nth raw 0 / 32 % 2 = 0 ∨ body = [])) (h2 : allQ body = none) : chk (k + 1) raw body = 9 := by
  simp only [chk]; rw [if_neg h, h2]
theorem chk_some {k : Nat} {raw body : List UInt8} {l : List (List UInt8 × List UInt8)} (h : ¬ (nth raw 0 / 32 % 2 = 0 ∨ body = [])) (h2 : allQ body = some l) : chk (k + 1) raw body = firstN (l.map fun p => chk k p.1 p.2) := by
  simp only [chk]; rw [if_neg h, h2]
theorem chk_le : ∀ (k : Nat) (raw body : List UInt8), chk k raw body ≤ 10
  | 0, raw, body => by simp only [chk]; split <;> omega
  | k + 1, raw, body => by
    simp only [chk]
    split
    · omega
    · split
      · omega
      · rename_i l _
        have : ∀ l : List (List UInt8 × List UInt8), firstN (l.map fun p => chk k p.1 p.2) ≤ 10 := fun l => by
          induction l with
          | nil => simp [firstN]
          | cons x r ih =>
            simp only [List.map_cons, firstN]
            split
            · exact ih
            · exact chk_le k _ _
        exact this l
theorem and32 (p : UInt8) : bits BinOp.and IntKind.u8 (p.toNat : Int) 32 = (p.toNat : Int) / 32 % 2 * 32 := by
  have hp := p.toNat_lt
  have := u8_and_nat p.toNat 32 (by omega) (by omega)
  rw [show 32 = 2 ^ 5 from rfl, nat_bit 5] at this
  exact this.trans (by omega)
def ChkPost (w : World) (x : Nat) (e : Ending) (w' : World) : Prop := e = .returned (.int .i64 (x : Int)) ∧ Below w.heap.size w w'
theorem check_leaf (pb po rn rc : Nat) (ba : Option Addr) (bn bc : Nat) (tag : UInt8) (d : Int) (w : World) (h0 : 0 < rn) (hct : w.cell? ⟨pb, po, none⟩ = some (.int .u8 (tag.toNat : Int))) (h : tag.toNat / 32 % 2 = 0 ∨ bn = 0) :
    Calls Try.prog 36 #[.agg #[.slice (some ⟨pb, po, none⟩) rn rc, .slice ba bn bc], .int .i64 d] w (ChkPost w 0) := by
  have hand := and32 tag
  have hlt := World.block_lt_of_cell? w _ hct
  by_cases ht : tag.toNat / 32 % 2 = 0
  · have t1 : ((tag.toNat : Int) / 32 % 2 * 32 == 0) = true := by simp; omega
    clear h ht
    go_enter Try.func36, Try.ntmps36
    go_wp2
    go_ret
    exact ⟨rfl, (Below.refl _ _).alloc (Nat.le_refl _) _⟩
  · have t1 : ((tag.toNat : Int) / 32 % 2 * 32 == 0) = false := by simp; omega
    obtain rfl : bn = 0 := by omega
    clear h ht
    go_enter Try.func36, Try.ntmps36
    go_wp2
    go_ret
    exact ⟨rfl, (Below.refl _ _).alloc (Nat.le_refl _) _⟩
theorem check_bottom (pb po rn rc : Nat) (ba : Option Addr) (bn bc : Nat) (tag : UInt8) (w : World) (h0 : 0 < rn) (hct : w.cell? ⟨pb, po, none⟩ = some (.int .u8 (tag.toNat : Int))) (ht : tag.toNat / 32 % 2 ≠ 0) (hb : bn ≠ 0) :
    Calls Try.prog 36 #[.agg #[.slice (some ⟨pb, po, none⟩) rn rc, .slice ba bn bc], .int .i64 16] w (ChkPost w 10) := by
  have hand := and32 tag
  have t1 : ((tag.toNat : Int) / 32 % 2 * 32 == 0) = false := by simp; omega
  have t2 : ((bn : Int) == 0) = false := by simp; omega
  have hlt := World.block_lt_of_cell? w _ hct
  clear ht hb
  go_enter Try.func36, Try.ntmps36
  go_wp2
  go_ret
  exact ⟨rfl, (Below.refl _ _).alloc (Nat.le_refl _) _⟩
theorem check_bad (pb po rn rc : Nat) (ba : Option Addr) (bn bc : Nat) (tag : UInt8) (body : List UInt8) (d : Int) (hd : d < 16) (w : World) (h0 : 0 < rn) (hct : w.cell? ⟨pb, po, none⟩ = some (.int .u8 (tag.toNat : Int))) (ht : tag.toNat / 32 % 2 ≠ 0) (hb : bn ≠ 0)
    (hR : RB w ba bn body) (hbc : bn ≤ bc) (hn : bn ≤ 1000000000) (hc : bc ≤ 9223372036854775807) (hno : allQ body = none) :
    Calls Try.prog 36 #[.agg #[.slice (some ⟨pb, po, none⟩) rn rc, .slice ba bn bc], .int .i64 d] w (ChkPost w 9) := by
  have hand := and32 tag
  have t1 : ((tag.toNat : Int) / 32 % 2 * 32 == 0) = false := by simp; omega
  have t2 : ((bn : Int) == 0) = false := by simp; omega
  have C : Hid (∀ W, Below w.heap.size w W → Calls Try.prog 32 #[.slice ba bn bc] W fun e w' => e = .returned (.tuple #[.slice none 0 0, .int .i64 9]) ∧ Below W.heap.size W w') := fun W hw => (list_any ba bn bc body W (hR.below hw) hbc hn hc).mono fun e w' hp => by
    unfold ListPost at hp; rw [hno] at hp; exact hp
  have hlt := World.block_lt_of_cell? w _ hct
  clear ht hb hR hno
  go_enter Try.func36, Try.ntmps36
  go_wp2_with fail
  refine (C.out _ (kp_alloc (Below.refl _ _) _)).mono ?_
  rintro e w' ⟨rfl, hb⟩
  go_wp2
  go_ret
  exact ⟨rfl, kp_call (kp_alloc (Below.refl _ _) _) hb⟩
theorem check_go (k : Nat) (pb po rn rc : Nat) (ba : Option Addr) (bn bc : Nat) (tag : UInt8) (body : List UInt8) (hk : k + 1 ≤ 15) (w : World) (h0 : 0 < rn) (hct : w.cell? ⟨pb, po, none⟩ = some (.int .u8 (tag.toNat : Int))) (ht : tag.toNat / 32 % 2 ≠ 0) (hb : bn ≠ 0)
    (hR : RB w ba bn body) (hbc : bn ≤ bc) (hn : bn ≤ 1000000000) (hc : bc ≤ 9223372036854775807) (l : List (List UInt8 × List UInt8)) (hl : allQ body = some l)
    (ih : Hid (∀ (p : PV) (W : World), p.Ok W bn → Calls Try.prog 36 #[p.val, .int .i64 (16 - (k : Int))] W (ChkPost W (chk k p.raw p.body)))) :
    Calls Try.prog 36 #[.agg #[.slice (some ⟨pb, po, none⟩) rn rc, .slice ba bn bc], .int .i64 (15 - (k : Int))] w (ChkPost w (firstN (l.map fun p => chk k p.1 p.2))) := by
  have hand := and32 tag
  have t1 : ((tag.toNat : Int) / 32 % 2 * 32 == 0) = false := by simp; omega
  have t2 : ((bn : Int) == 0) = false := by simp; omega
  have C : Hid (∀ W, Below w.heap.size w W → Calls Try.prog 32 #[.slice ba bn bc] W fun e w' => (∃ (A : Option Addr) (n c : Nat) (ps : List PV), e = .returned (.tuple #[.slice A n c, .int .i64 0]) ∧ ps.map (fun p => (p.raw, p.body)) = l ∧ (∀ p ∈ ps, p.Ok W bn) ∧ OwnR w' W.heap.size 60 2 A n c (ps.flatMap PV.cells)) ∧ Below W.heap.size W w') := fun W hw => (list_any ba bn bc body W (hR.below hw) hbc hn hc).mono fun e w' hp => by
    unfold ListPost at hp; rw [hl] at hp; exact hp
  have HLL : Hid (l.length ≤ 1000000000) := by
    have := allQ_len _ body _ (Nat.le_refl _) hl
    rw [hR.1] at this
    unfold Hid; omega
  have hlt0 := World.block_lt_of_cell? w _ hct
  clear ht hb hR hl
  go_enter Try.func36, Try.ntmps36
  go_wp2_with fail
  refine (C.out _ (kp_alloc (Below.refl _ _) _)).mono ?_
  rintro e w1 ⟨⟨A, n, c, ps, rfl, hps, hok, hown⟩, hb1⟩
  have hbw1 : Below w.heap.size w w1 := kp_call (kp_alloc (Below.refl _ _) _) hb1
  have hnp : n = ps.length := by have := hown.len; rw [cells_flat] at this; omega
  have hnl : ps.length = l.length := by rw [← hps]; simp
  have HNP := Lib.hid hnp
  have HPS := Lib.hid hps
  have HOK := Lib.hid (fun p (hp : p ∈ ps) => hok p hp)
  have HOW := Lib.hid hown
  have hn2 : n ≤ 1000000000 := by have := HLL.out; omega
  have hs1 := hbw1.size
  have hdd : (15 : Int) - (k : Int) + 1 = 16 - (k : Int) := by omega
  have HB1 := Lib.hid hb1
  clear hnp hnl hps hok hown hb1
  go_wp2
  go_loopw [35] (fun i wl => ∃ (j : Nat), j ≤ n ∧ i = .int .i64 j ∧ Below w1.heap.size w1 wl ∧ Hid (∀ i p, i < j → ps[i]? = some p → chk k p.raw p.body = 0)) (fun i _ => n - (intOf i).toNat)
  case atStart => exact ⟨0, Nat.zero_le _, rfl, Below.refl _ _, fun i p hi => absurd hi (Nat.not_lt_zero _)⟩
  case round =>
    obtain ⟨j, hj, rfl, hbl, HZ⟩ := hrel
    by_cases hlt : j < n
    · obtain ⟨p, hp⟩ : ∃ p, ps[j]? = some p := ⟨_, List.getElem?_eq_getElem (by rw [← HNP.out]; exact hlt)⟩
      obtain ⟨hg0, hg1⟩ := flat_get ps p j hp
      obtain ⟨b, off, rfl, hb, hc0⟩ := HOW.out.reads.at_ hg0
      obtain ⟨b', off', e', _, hc1⟩ := HOW.out.reads.at_ hg1
      cases e'
      have d0 := kp_cell hbl hc0
      have d1 := kp_cell hbl hc1
      rw [← Nat.add_assoc] at d1
      have hpk := HOK.out p (List.mem_of_getElem? hp)
      have HP := Lib.hid hp
      have hsr := hbl.size
      have CE := Lib.hid (ih.out p (wr.alloc (.cells #[.slice p.ra p.rn p.rc, .slice p.ba p.bn p.bc] 60)) (by
        have hq : Below (w.alloc (.cells #[.slice (some ⟨pb, po, none⟩) rn rc, .slice ba bn bc] 60)).heap.size (w.alloc (.cells #[.slice (some ⟨pb, po, none⟩) rn rc, .slice ba bn bc] 60)) (wr.alloc (.cells #[.slice p.ra p.rn p.rc, .slice p.ba p.bn p.bc] 60)) := kp_alloc (HB1.out.trans (hbl.mono HB1.out.size)) _
        exact ⟨hpk.r.below hq, hpk.b.below hq, hpk.two, hpk.le, hpk.ble, hpk.cle, hpk.cc⟩))
      rw [PV.val] at CE
      have hcl := chk_le k p.raw p.body
      clear hc0 hc1 hp hg0 hg1 hpk
      generalize hx : chk k p.raw p.body = x at *
      have HX := Lib.hid hx
      clear hx
      by_cases hx0 : x = 0
      · subst hx0
        go_wp2_with fail
        refine CE.out.mono ?_
        rintro e w4 ⟨rfl, hb4⟩
        have hb14 : Below w1.heap.size w1 w4 := hbl.trans ((kp_call (kp_alloc (Below.refl _ _) _) hb4).mono hsr)
        go_wp2
        go_roundw
        case rel => exact ⟨j + 1, by omega, by go_num, hb14, fun i q hi hq => by
          rcases Nat.lt_or_ge i j with h9 | h9
          · exact HZ.out i q h9 hq
          · obtain rfl : i = j := by omega
            rw [HP.out] at hq
            cases hq
            exact HX.out⟩
        case measure => simp [intOf]; omega
      · have t9 : ((x : Int) != 0) = true := by simp; omega
        have HF : Hid (firstN (l.map fun p => chk k p.1 p.2) = x) := by
          unfold Hid
          refine firstN_at _ j x ?_ hx0 (fun i y hi hy => ?_)
          · rw [← HPS.out, List.map_map, List.getElem?_map, HP.out]
            simp [HX.out]
          · rw [← HPS.out, List.map_map, List.getElem?_map] at hy
            cases hq : ps[i]? with
            | none => rw [hq] at hy; simp at hy
            | some q =>
              rw [hq] at hy
              simp at hy
              rw [← hy]
              exact HZ.out i q hi hq
        clear hx0
        go_wp2_with fail
        refine CE.out.mono ?_
        rintro e w4 ⟨rfl, hb4⟩
        have hb14 : Below w1.heap.size w1 w4 := hbl.trans ((kp_call (kp_alloc (Below.refl _ _) _) hb4).mono hsr)
        go_wp2
        go_ret
        exact ⟨by rw [HF.out]; rfl, hbw1.trans (hb14.mono hs1)⟩
    · obtain rfl : j = n := by omega
      have HF : Hid (firstN (l.map fun p => chk k p.1 p.2) = 0) := by
        unfold Hid
        refine firstN_zero (fun x hx => ?_)
        rw [← HPS.out, List.map_map] at hx
        obtain ⟨q, hq, rfl⟩ := List.mem_map.1 hx
        obtain ⟨i, hi, hqi⟩ := List.getElem_of_mem hq
        exact HZ.out i q (by rw [HNP.out]; exact hi) (by rw [List.getElem?_eq_getElem hi, hqi])
      go_wp2
      go_ret
      exact ⟨by rw [HF.out]; rfl, hbw1.trans (hbl.mono hs1)⟩
theorem check_any (k : Nat) : ∀ (hk : k ≤ 15) (m : Nat) (hm : m ≤ 1000000000) (p : PV) (w : World) (hp : p.Ok w m), Calls Try.prog 36 #[p.val, .int .i64 (16 - (k : Int))] w (ChkPost w (chk k p.raw p.body)) := by
  induction k with
  | zero =>
    intro hk m hm p w hp
    obtain ⟨pa, rn, rc, ba, bn, bc, raw, body⟩ := p
    obtain ⟨hr, hbd, h2, hle, hble, hcl, hcc⟩ := hp
    simp only [PV.val] at *
    obtain ⟨pb, po, tag, rfl, hpb, htag, hct⟩ := hr.at_ (k := 0) (by omega)
    have hnt : nth raw 0 = tag.toNat := by unfold nth; rw [List.getD_eq_getElem?_getD, htag]; rfl
    have hbn : body = [] ↔ bn = 0 := by rw [← hbd.1]; exact List.length_eq_zero_iff.symm
    by_cases hlf : tag.toNat / 32 % 2 = 0 ∨ bn = 0
    · rw [chk_leaf 0 (by rw [hnt, hbn]; exact hlf)]
      exact check_leaf pb po rn rc ba bn bc tag _ w (by omega) hct hlf
    · rw [chk_bottom (by rw [hnt, hbn]; exact hlf)]
      exact check_bottom pb po rn rc ba bn bc tag w (by omega) hct (fun e => hlf (.inl e)) (fun e => hlf (.inr e))
  | succ k ih =>
    intro hk m hm p w hp
    obtain ⟨pa, rn, rc, ba, bn, bc, raw, body⟩ := p
    obtain ⟨hr, hbd, h2, hle, hble, hcl, hcc⟩ := hp
    simp only [PV.val] at *
    obtain ⟨pb, po, tag, rfl, hpb, htag, hct⟩ := hr.at_ (k := 0) (by omega)
    have hnt : nth raw 0 = tag.toNat := by unfold nth; rw [List.getD_eq_getElem?_getD, htag]; rfl
    have hbn : body = [] ↔ bn = 0 := by rw [← hbd.1]; exact List.length_eq_zero_iff.symm
    have hd : (16 : Int) - ((k + 1 : Nat) : Int) = 15 - (k : Int) := by omega
    by_cases hlf : tag.toNat / 32 % 2 = 0 ∨ bn = 0
    · rw [chk_leaf _ (by rw [hnt, hbn]; exact hlf)]
      exact check_leaf pb po rn rc ba bn bc tag _ w (by omega) hct hlf
    have hnl : ¬ (nth raw 0 / 32 % 2 = 0 ∨ body = []) := by rw [hnt, hbn]; exact hlf
    cases hq : allQ body with
    | none =>
      rw [chk_none hnl hq]
      exact check_bad pb po rn rc ba bn bc tag body _ (by omega) w (by omega) hct (fun e => hlf (.inl e)) (fun e => hlf (.inr e)) hbd hcl (by omega) hcc hq
    | some l =>
      rw [chk_some hnl hq, hd]
      exact check_go k pb po rn rc ba bn bc tag body hk w (by omega) hct (fun e => hlf (.inl e)) (fun e => hlf (.inr e)) hbd hcl (by omega) hcc l hq (fun p W hp => ih (by omega) bn (by omega) p W hp)
/-- What is said of bytes as one element. -/
def checkQ (bs : List UInt8) : Nat := match allQ bs with
  | some [p] => chk 15 p.1 p.2
  | _ => 9
theorem Check_any (A : Option Addr) (n c : Nat) (bs : List UInt8) (w : World) (hR : RB w A n bs) (hnc : n ≤ c) (hn : n ≤ 1000000000) (hc : c ≤ 9223372036854775807) :
    Calls Try.prog 13 #[.slice A n c] w (ChkPost w (checkQ bs)) := by
  cases hq : allQ bs with
  | none =>
    have C : Hid (Calls Try.prog 32 #[.slice A n c] w fun e w' => e = .returned (.tuple #[.slice none 0 0, .int .i64 9]) ∧ Below w.heap.size w w') := (list_any A n c bs w hR hnc hn hc).mono fun e w' hp => by
      unfold ListPost at hp; rw [hq] at hp; exact hp
    have e : checkQ bs = 9 := by unfold checkQ; rw [hq]
    rw [e]
    clear hq hR
    go_enter Try.func13, Try.ntmps13
    go_wp2_with fail
    refine C.out.mono ?_
    rintro e w' ⟨rfl, hb⟩
    go_wp2
    go_ret
    exact ⟨rfl, hb⟩
  | some l =>
    have C : Hid (Calls Try.prog 32 #[.slice A n c] w fun e w' => (∃ (A : Option Addr) (m c : Nat) (ps : List PV), e = .returned (.tuple #[.slice A m c, .int .i64 0]) ∧ ps.map (fun p => (p.raw, p.body)) = l ∧ (∀ p ∈ ps, p.Ok w n) ∧ OwnR w' w.heap.size 60 2 A m c (ps.flatMap PV.cells)) ∧ Below w.heap.size w w') := (list_any A n c bs w hR hnc hn hc).mono fun e w' hp => by
      unfold ListPost at hp; rw [hq] at hp; exact hp
    have HLL : Hid (l.length ≤ 1000000000) := by
      have := allQ_len _ bs _ (Nat.le_refl _) hq
      rw [hR.1] at this
      unfold Hid; omega
    have HQ := Lib.hid hq
    clear hq hR
    by_cases h1 : l.length = 1
    · obtain ⟨r, hl⟩ : ∃ r, l = [r] := by
        match l, h1 with
        | [r], _ => exact ⟨r, rfl⟩
      have HE : Hid (checkQ bs = chk 15 r.1 r.2) := by unfold Hid checkQ; rw [HQ.out, hl]
      have HL1 := Lib.hid hl
      clear hl h1
      go_enter Try.func13, Try.ntmps13
      go_wp2_with fail
      refine C.out.mono ?_
      rintro e w1 ⟨⟨A1, m, c1, ps, rfl, hps, hok, hown⟩, hb1⟩
      obtain ⟨p, rfl⟩ : ∃ p, ps = [p] := by
        have := congrArg List.length hps
        rw [HL1.out] at this
        match ps, this with
        | [p], _ => exact ⟨p, rfl⟩
        | [], h => simp at h
        | _ :: _ :: _, h => simp at h
      have hm1 : m = 1 := by have := hown.len; simp [PV.cells] at this; omega
      subst hm1
      obtain ⟨b, off, rfl, hb, hc0⟩ := hown.reads.at_ (j := 0) (u := .slice p.ra p.rn p.rc) rfl
      obtain ⟨b', off', e', _, hc1⟩ := hown.reads.at_ (j := 1) (u := .slice p.ba p.bn p.bc) rfl
      cases e'
      have d0 : w1.cell? ⟨b, off, none⟩ = some (.slice p.ra p.rn p.rc) := hc0
      have hpk := hok p (by simp)
      have hr : (p.raw, p.body) = r := by
        have := hps.trans HL1.out
        simpa using this
      have CE := Lib.hid (check_any 15 (by omega) n hn p w1 ⟨hpk.r.below hb1, hpk.b.below hb1, hpk.two, hpk.le, hpk.ble, hpk.cle, hpk.cc⟩)
      rw [PV.val, show (16 : Int) - ((15 : Nat) : Int) = 1 from rfl] at CE
      have hs1 := hb1.size
      have HR1 := Lib.hid hr
      have HB1 := Lib.hid hb1
      clear hps hok hown hc0 hpk hr hb1
      go_wp2_with fail
      refine CE.out.mono ?_
      rintro e w2 ⟨rfl, hb2⟩
      go_wp2
      go_ret
      refine ⟨?_, HB1.out.trans (hb2.mono hs1)⟩
      rw [HE.out, ← HR1.out]
      rfl
    · have HE : Hid (checkQ bs = 9) := by
        unfold Hid checkQ
        rw [HQ.out]
        match l, h1 with
        | [], _ => rfl
        | _ :: _ :: _, _ => rfl
      have HL1 := Lib.hid h1
      clear h1
      go_enter Try.func13, Try.ntmps13
      go_wp2_with fail
      refine C.out.mono ?_
      rintro e w1 ⟨⟨A1, m, c1, ps, rfl, hps, hok, hown⟩, hb1⟩
      have hm1 : m ≠ 1 := by
        have h9 := hown.len
        rw [cells_flat] at h9
        have := congrArg List.length hps
        simp at this
        intro e
        apply HL1.out
        omega
      have t1 : ((m : Int) != 1) = true := by simp; omega
      clear hm1 hown hps hok
      go_wp2
      go_ret
      exact ⟨by rw [HE.out]; rfl, hb1⟩
end Go.Proofs.Ytamkbedbkjndgaa

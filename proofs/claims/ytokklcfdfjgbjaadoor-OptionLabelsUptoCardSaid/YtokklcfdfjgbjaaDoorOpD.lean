/-
  option: the label.
-/
import Derived.Test.YtokklcfdfjgbjaaDoorOpC
namespace Go.Proofs.YtokklcfdfjgbjaaDoor
open Go.RowKit Go
set_option linter.unusedVariables false
set_option maxRecDepth 100000
/-- The bytes of letters up to the first two bytes 0. -/
def scan : List UInt8 → Option (List UInt8)
  | p :: q :: r => if p.toNat = 0 ∧ q.toNat = 0 then some [] else (scan r).map (p :: q :: ·)
  | _ => none
theorem scan_end {bs : List UInt8} (h : bs.length < 2) : scan bs = none := by
  match bs, h with
  | [], _ => rfl
  | [_], _ => rfl
theorem drop_two {bs : List UInt8} {k : Nat} {p q : UInt8} (hp : bs[k]? = some p) (hq : bs[k + 1]? = some q) : bs.drop k = p :: q :: bs.drop (k + 2) := by
  have h1 : k < bs.length := by
    rcases Nat.lt_or_ge k bs.length with h | h
    · exact h
    · rw [List.getElem?_eq_none h] at hp; cases hp
  have h2 : k + 1 < bs.length := by
    rcases Nat.lt_or_ge (k + 1) bs.length with h | h
    · exact h
    · rw [List.getElem?_eq_none h] at hq; cases hq
  rw [List.drop_eq_getElem_cons h1, List.drop_eq_getElem_cons h2]
  rw [List.getElem?_eq_getElem h1] at hp
  rw [List.getElem?_eq_getElem h2] at hq
  injection hp with hp
  injection hq with hq
  rw [hp, hq]
theorem cut_two {bs : List UInt8} {k : Nat} {p q : UInt8} (hp : bs[k]? = some p) (hq : bs[k + 1]? = some q) : cut bs k 2 = [p, q] := by
  unfold cut
  rw [drop_two hp hq]
  rfl
/-- What label answers. -/
def LabelPost (w : World) (P0 P1 : Nat) (A : Option Addr) (n c : Nat) (bs : List UInt8) (k0 : Nat) (e : Ending) (w' : World) : Prop :=
  (match scan (bs.drop k0) with
    | none => e = .returned (.tuple #[.string ByteArray.empty, .bool false]) ∧ ∃ k', Take w' P0 P1 A n c bs k'
    | some wl => (match narrowS wl with
        | some l => e = .returned (.tuple #[.string (strOf l), .bool true])
        | none => e = .returned (.tuple #[.string ByteArray.empty, .bool false])) ∧ Take w' P0 P1 A n c bs (k0 + wl.length + 2)) ∧ w.grownBy w' (some P1)
theorem label_none {w w' : World} {P0 P1 : Nat} {A : Option Addr} {n c : Nat} {bs : List UInt8} {k0 k' : Nat} (h : scan (bs.drop k0) = none) (ht : Take w' P0 P1 A n c bs k') (hg : w.grownBy w' (some P1)) :
    LabelPost w P0 P1 A n c bs k0 (.returned (.tuple #[.string ByteArray.empty, .bool false])) w' := by
  simp only [LabelPost, h]; exact ⟨⟨trivial, k', ht⟩, hg⟩
theorem label_yes {w w' : World} {P0 P1 : Nat} {A : Option Addr} {n c : Nat} {bs wl l : List UInt8} {k0 : Nat} (h : scan (bs.drop k0) = some wl) (h2 : narrowS wl = some l) (ht : Take w' P0 P1 A n c bs (k0 + wl.length + 2)) (hg : w.grownBy w' (some P1)) :
    LabelPost w P0 P1 A n c bs k0 (.returned (.tuple #[.string (strOf l), .bool true])) w' := by
  simp only [LabelPost, h, h2]; exact ⟨⟨trivial, ht⟩, hg⟩
theorem label_no {w w' : World} {P0 P1 : Nat} {A : Option Addr} {n c : Nat} {bs wl : List UInt8} {k0 : Nat} (h : scan (bs.drop k0) = some wl) (h2 : narrowS wl = none) (ht : Take w' P0 P1 A n c bs (k0 + wl.length + 2)) (hg : w.grownBy w' (some P1)) :
    LabelPost w P0 P1 A n c bs k0 (.returned (.tuple #[.string ByteArray.empty, .bool false])) w' := by
  simp only [LabelPost, h, h2]; exact ⟨⟨trivial, ht⟩, hg⟩
/-- Where the loop stands: the bytes so far, and what is to come. -/
structure Lab (w0 w : World) (P0 P1 : Nat) (A : Option Addr) (n c : Nat) (bs : List UInt8) (k0 k : Nat) (V : Option Addr) (m cv : Nat) (acc : List UInt8) : Prop where
  take : Take w P0 P1 A n c bs k
  own : OwnB w w0.heap.size V m cv acc
  grown : w0.grownBy w (some P1)
  at_ : k = k0 + m
  scan : scan (bs.drop k0) = (scan (bs.drop k)).map (acc ++ ·)
theorem grown_row {a b d : World} {row r2 : Option Nat} {B : Nat} (h : a.grownBy b row) (k : b.grownBy d r2) (hB : a.heap.size ≤ B) (hr : ∀ g, r2 = some g → B ≤ g) : a.grownBy d row :=
  ⟨k.os.trans h.os, k.tape.trans h.tape, k.output.trans h.output, Nat.le_trans h.size k.size, fun i hi hne => (k.block i (Nat.lt_of_lt_of_le hi h.size) (fun e => by have := hr i e.symm; omega)).trans (h.block i hi hne)⟩
set_option maxHeartbeats 1600000 in
theorem label_any (P0 P1 : Nat) (A : Option Addr) (n c : Nat) (bs : List UInt8) (k0 : Nat) (w : World) (h : Take w P0 P1 A n c bs k0) (hn : n ≤ 1000000) :
    Calls Tryd.prog 28 #[.func (Fn.func 35) #[] #[.pointer (some ⟨P0, 0, none⟩), .pointer (some ⟨P1, 0, none⟩)]] w (LabelPost w P0 P1 A n c bs k0) := by
  have hP1 := h.size
  have h0 : Hid (Lab w w P0 P1 A n c bs k0 k0 none 0 0 []) := ⟨h, OwnB.nil _ _, World.grownBy.refl w _, rfl, by simp⟩
  clear h
  go_enter Tryd.func28, Tryd.ntmps28
  go_wp2
  go_loopw [4] (fun v wr => ∃ k V m cv acc, v = .slice V m cv ∧ Lab w wr P0 P1 A n c bs k0 k V m cv acc) (fun v _ => n + 2 - (match v with | .slice _ m _ => m | _ => 0))
  case atStart => exact ⟨k0, none, 0, 0, [], rfl, h0.out⟩
  case round =>
    obtain ⟨k, V, m, cv, acc, rfl, hL⟩ := hrel
    have HLb := Lib.hid hL
    have hk := hL.at_
    have hkn := hL.take.at_le
    have ht := hL.take
    have hmn : m ≤ 1000000 := by omega
    by_cases hin : k + 2 ≤ n
    · have T := Lib.hid (take_ok P0 P1 A n c bs k 2 wr ht hin (by omega))
      clear ht hL
      go_wp2_with fail
      refine T.out.mono ?_
      rintro e w1 ⟨A1, c1, rfl, hown1, ht1, hg1⟩
      obtain ⟨b, off, p, hA, hbb, hp, _⟩ := HLb.out.take.rb.at_ (k := k) (by omega)
      obtain ⟨b', off', q, hA', hbb', hq, _⟩ := HLb.out.take.rb.at_ (k := k + 1) (by omega)
      have hcut := cut_two hp hq
      have hdrop := drop_two hp hq
      rw [hcut] at hown1
      have hcap := hown1.cap
      obtain ⟨g, rfl, hg1a, hg1b⟩ := hown1.shape (by omega)
      have x0 := hown1.cellAt 0 p rfl
      have x1 := hown1.cellAt 1 q rfl
      have hownV : OwnB w1 w.heap.size V m cv acc := HLb.out.own.kept hg1 (by
        rcases hV : blk V with _ | gv
        · exact .inl rfl
        · exact .inr (fun e => by have := (HLb.out.own.blk_lt hV).1; injection e with e; omega))
      have hszr := HLb.out.grown.size
      have hsz1 := hg1.size
      have hszw : w.heap.size ≤ w1.heap.size := by omega
      have hgw1 : w.grownBy w1 (some P1) := grown_trans HLb.out.grown hg1
      have hlenA := hownV.len
      have hpb := p.toNat_lt
      have hqb := q.toNat_lt
      have hsc := HLb.out.scan
      rw [hdrop] at hsc
      have HSC := Lib.hid hsc
      have HDR := Lib.hid hdrop
      have HRB := Lib.hid hown1.rb
      have HG1 := Lib.hid hg1
      have HT1 := Lib.hid ht1
      have HGW := Lib.hid hgw1
      have HLA := Lib.hid hlenA
      have HCAP := Lib.hid hcap
      clear hcut hdrop hsc hp hq hA hA' hown1 hg1 ht1 hgw1 hlenA hcap
      have hcs : (p.toNat = 0 ∧ q.toNat = 0) ∨ (p.toNat = 0 ∧ q.toNat ≠ 0) ∨ p.toNat ≠ 0 := by omega
      rcases hcs with ⟨hp0, hq0⟩ | ⟨hp0, hq0⟩ | hp0
      · have d0 : ((p.toNat : Int) == 0) = true := beq_iff_eq.2 (by omega)
        have d1 : ((q.toNat : Int) == 0) = true := beq_iff_eq.2 (by omega)
        have hscan : scan (bs.drop k0) = some acc := by
          rw [HSC.out]
          unfold scan
          rw [if_pos ⟨hp0, hq0⟩]
          simp
        have HSN := Lib.hid hscan
        have hT2 : Take w1 P0 P1 A n c bs (k0 + acc.length + 2) := by rw [HLA.out, ← hk]; exact HT1.out
        have HT2 := Lib.hid hT2
        clear hscan hp0 hq0 hk hT2
        go_wp2_with fail
        refine (narrow_any V m cv acc w1 hownV.rb (by omega)).mono ?_
        intro e w2 hp2
        unfold NarrowPost at hp2
        cases hNS : narrowS acc with
        | none =>
          rw [hNS] at hp2
          obtain ⟨rfl, hb2⟩ := hp2
          have HF := Lib.hid (label_no (w := w) HSN.out hNS (HT2.out.below hb2) (grown_row HGW.out (grown_of_below hb2 (Nat.le_refl _) none) hszw (fun g e => by cases e)))
          clear hNS hb2
          go_wp2
          go_ret2
          exact HF.out
        | some l =>
          rw [hNS] at hp2
          obtain ⟨rfl, hb2⟩ := hp2
          have HF := Lib.hid (label_yes (w := w) HSN.out hNS (HT2.out.below hb2) (grown_row HGW.out (grown_of_below hb2 (Nat.le_refl _) none) hszw (fun g e => by cases e)))
          clear hNS hb2
          go_wp2
          go_ret2
          exact HF.out
      · have d0 : ((p.toNat : Int) == 0) = true := beq_iff_eq.2 (by omega)
        have d1 : ((q.toNat : Int) == 0) = false := beq_eq_false_iff_ne.2 (by omega)
        have hscan : scan (bs.drop k0) = (scan (bs.drop (k + 2))).map ((acc ++ [p, q]) ++ ·) := by
          rw [HSC.out]
          conv => lhs; unfold scan
          rw [if_neg (by omega), Option.map_map]
          congr 1
          funext z
          simp
        have HSN := Lib.hid hscan
        have hk2 : k + 2 = k0 + (m + 2) := by omega
        have HK2 := Lib.hid hk2
        clear hscan hk2 hp0
        go_wp2_with (at_builtin; refine wpList_apn _ _ rfl rfl rfl w.heap.size V m cv acc rfl hownV (some ⟨g, 0, none⟩) 2 c1 _ rfl HRB.out (by omega) hszw ?_)
        intro A4 c4 w4 hown4 hg4
        have hrow : ∀ g', blk V = some g' → w.heap.size ≤ g' := fun g' e => (hownV.blk_lt e).1
        have hL4 : Lab w w4 P0 P1 A n c bs k0 (k + 2) A4 (m + 2) c4 (acc ++ [p, q]) :=
          ⟨HT1.out.grown hg4 (fun g' e => by have := hrow g' e; omega), hown4, grown_row HGW.out hg4 (Nat.le_refl _) hrow, HK2.out, HSN.out⟩
        clear hown4 hg4 hownV hrow
        go_wp2
        go_roundw
        case rel => exact ⟨k + 2, A4, m + 2, c4, acc ++ [p, q], rfl, hL4⟩
        case measure => simp; omega
      · have d0 : ((p.toNat : Int) == 0) = false := beq_eq_false_iff_ne.2 (by omega)
        have hscan : scan (bs.drop k0) = (scan (bs.drop (k + 2))).map ((acc ++ [p, q]) ++ ·) := by
          rw [HSC.out]
          conv => lhs; unfold scan
          rw [if_neg (by omega), Option.map_map]
          congr 1
          funext z
          simp
        have HSN := Lib.hid hscan
        have hk2 : k + 2 = k0 + (m + 2) := by omega
        have HK2 := Lib.hid hk2
        clear hscan hk2 hp0
        go_wp2_with (at_builtin; refine wpList_apn _ _ rfl rfl rfl w.heap.size V m cv acc rfl hownV (some ⟨g, 0, none⟩) 2 c1 _ rfl HRB.out (by omega) hszw ?_)
        intro A4 c4 w4 hown4 hg4
        have hrow : ∀ g', blk V = some g' → w.heap.size ≤ g' := fun g' e => (hownV.blk_lt e).1
        have hL4 : Lab w w4 P0 P1 A n c bs k0 (k + 2) A4 (m + 2) c4 (acc ++ [p, q]) :=
          ⟨HT1.out.grown hg4 (fun g' e => by have := hrow g' e; omega), hown4, grown_row HGW.out hg4 (Nat.le_refl _) hrow, HK2.out, HSN.out⟩
        clear hown4 hg4 hownV hrow
        go_wp2
        go_roundw
        case rel => exact ⟨k + 2, A4, m + 2, c4, acc ++ [p, q], rfl, hL4⟩
        case measure => simp; omega
    · have T := Lib.hid (take_no P0 P1 A n c bs k 2 wr ht (by omega) (by omega) (by omega))
      have hsc := hL.scan
      have he : scan (bs.drop k) = none := scan_end (by rw [List.length_drop, ht.len]; omega)
      rw [he] at hsc
      have hsc : scan (bs.drop k0) = none := by rw [hsc]; rfl
      have HF := Lib.hid (label_none (w := w) hsc ht hL.grown)
      clear ht hL hsc he
      go_wp2_with fail
      refine T.out.mono ?_
      rintro e w1 ⟨rfl, rfl⟩
      go_wp2
      go_ret2
      exact HF.out
end Go.Proofs.YtokklcfdfjgbjaaDoor

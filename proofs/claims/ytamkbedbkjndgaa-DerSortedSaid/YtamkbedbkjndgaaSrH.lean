/-
  der: Sets; copies of parts.
-/
import Derived.Test.YtamkbedbkjndgaaSrG
import Derived.Test.YtamkbedbkjndgaaDrW
import Derived.Test.YtamkbedbkjndgaaAppZ
import Derived.Test.YtamkbedbkjndgaaRows2
import Derived.Test.YtamkbedbkjndgaaCpy
import Derived.Lib.SliceRun
namespace Go.Proofs.Ytamkbedbkjndgaa
open Go.RowKit Go
set_option linter.unusedVariables false
set_option linter.unusedSimpArgs false
set_option maxRecDepth 100000
theorem bss_row2 : RowT 34 22 1 24 (.slice none 0 0) := ⟨Try.underlying34, by kernel_rfl, rfl, by decide⟩
/-- Parts that lie in a row. -/
structure PR (w : World) (A : Option Addr) (n : Nat) (ds : List Own1) : Prop where
  len : ds.length = n
  rd : ReadR w A (ds.map Own1.val)
  ok : ∀ x ∈ ds, RB w x.1 x.2.1 x.2.2.2
theorem PR.below {w w' : World} {A : Option Addr} {n : Nat} {ds : List Own1} (h : PR w A n ds) (hb : Below w.heap.size w w') : PR w' A n ds := ⟨h.len, h.rd.below hb (Nat.le_refl _), fun x hx => (h.ok x hx).below hb⟩
theorem PR.cell {w : World} {A : Option Addr} {n : Nat} {ds : List Own1} (h : PR w A n ds) {i : Nat} {x : Own1} (hx : ds[i]? = some x) : ∃ b off, A = some ⟨b, off, none⟩ ∧ b < w.heap.size ∧ w.cell? ⟨b, off + i, none⟩ = some (.slice x.1 x.2.1 x.2.2.1) :=
  h.rd.at_ (j := i) (u := x.val) (by rw [List.getElem?_map, hx]; rfl)
theorem PR.parts {w : World} {A : Option Addr} {n : Nat} {ds : List Own1} (h : PR w A n ds) : Parts w A n (fun r => ((ds.getD r Row1.nul).1, (ds.getD r Row1.nul).2.1, (ds.getD r Row1.nul).2.2.1)) (fun r => (ds.getD r Row1.nul).2.2.2) := fun hn => by
  obtain ⟨b, off, rfl, hb, hc⟩ := h.rd (by intro e; have := congrArg List.length e; simp [h.len] at this; omega)
  refine ⟨b, off, rfl, hb, fun r hr => ?_⟩
  have hg : ds.getD r Row1.nul = ds[r]'(by rw [h.len]; exact hr) := by rw [List.getD_eq_getElem?_getD, List.getElem?_eq_getElem (by rw [h.len]; exact hr)]; rfl
  simp only [hg]
  exact ⟨hc r _ (by rw [List.getElem?_map, List.getElem?_eq_getElem (by rw [h.len]; exact hr)]; rfl), h.ok _ (List.getElem_mem _)⟩
def flat (ds : List Own1) : List UInt8 := (ds.map txt).flatten
theorem flat_map (ds : List Own1) : ds.flatMap (fun x => x.2.2.2) = flat ds := by
  unfold flat
  rw [List.flatMap_def]
  rfl
theorem flat_len_perm {ds dz : List Own1} (h : dz.Perm ds) : (flat dz).length = (flat ds).length := by
  unfold flat
  exact ((h.map txt).flatten).length_eq
theorem joinP_any (A : Option Addr) (n c : Nat) (ds : List Own1) (w : World) (hP : PR w A n ds) (hn : n ≤ 1000000) (hlen : (flat ds).length ≤ 140737488355328) :
    Calls Try.prog 25 #[.slice A n c] w (Fresh w (flat ds)) := by
  have hj := joinN_list ds n (by rw [hP.len]; exact Nat.le_refl _)
  rw [List.take_of_length_le (by rw [hP.len]; exact Nat.le_refl _), flat_map] at hj
  have := join_any A n c _ _ w hP.parts hn (by rw [hj]; exact hlen)
  rw [hj] at this
  exact this
theorem PR.prefix_ {n : Nat} {ds : List Own1} (hl : ds.length = n) (k : Nat) (hk : k ≤ n) : joinN (fun r => (ds.getD r Row1.nul).2.2.2) k = flat (ds.take k) := by
  rw [joinN_list ds k (by omega), flat_map]
/-- slices.Clone. -/
theorem clone_any (A : Option Addr) (n c : Nat) (ds : List Own1) (w : World) (hP : PR w A n ds) (hn : n ≤ 1000000) :
    Calls Try.prog 43 #[.slice A n c] w fun e w' => ∃ A2 c2, e = .returned (.slice A2 n c2) ∧ OwnR w' w.heap.size 22 1 A2 n c2 (ds.map Own1.val) ∧ Below w.heap.size w w' := by
  cases hA : A with
  | none =>
    obtain rfl : ds = [] := by
      rcases ds with _ | ⟨x, r⟩
      · rfl
      · obtain ⟨b, off, e, _⟩ := hP.cell (i := 0) (x := x) rfl
        rw [hA] at e; cases e
    obtain rfl : n = 0 := by have := hP.len; simpa using this.symm
    have EN := fun (W : World) => Lib.run_eql_slice_nil (P := Try.prog) W _ _ none 0 c 0 0 Try.underlying34
    clear hP hA
    go_enter Try.func43, Try.ntmps43
    go_wp2
    go_ret
    exact ⟨none, 0, rfl, OwnR.nil _ _ _ _, Below.refl _ _⟩
  | some ad =>
    subst hA
    have hl := hP.len
    have HC : Hid (∀ (j : Nat) (u : Value), (ds.map Own1.val)[j]? = some u → (w.alloc (.cells #[] 22)).cell? (ad.add j) = some u) := fun j u hu => by
      obtain ⟨b, off, e, hb, hc⟩ := (hP.rd.alloc (.cells #[] 22)).at_ hu
      cases e
      rw [show (⟨b, off, none⟩ : Addr).add j = ⟨b, off + j, none⟩ by unfold Addr.add; split <;> simp_all]
      exact hc
    have H1 : Hid (∀ u ∈ ds.map Own1.val, u.oneCell' = true) := fun u hu => by
      obtain ⟨x, _, rfl⟩ := List.mem_map.1 hu
      rfl
    have hmax : 0 + n ≤ maxLen := by unfold maxLen; omega
    have HL := Lib.hid hl
    have EN := fun (W : World) => Lib.run_eql_slice_nil (P := Try.prog) W _ _ (some ad) n c 0 0 Try.underlying34
    clear hP hl
    go_enter Try.func43, Try.ntmps43
    go_wp2_with (at_builtin; refine wpList_appR bss_row2 _ _ rfl rfl rfl w.heap.size (some ⟨w.heap.size, 0, none⟩) 0 0 [] rfl (OwnR.lit w 22 1 #[] 0 (Nat.zero_le _) rfl) ad n c (ds.map Own1.val) rfl (by rw [List.length_map, HL.out]; omega) HC.out H1.out hmax (by omega) (by simp) ?_)
    intro V' c' w2 ho hg
    have hb : Below w.heap.size w w2 := (kp_alloc (Below.refl _ _) (.cells #[] 22)).grown hg (by simp) (fun g hg => (show w.heap.size = g from by simpa [blk] using hg) ▸ Nat.le_refl _)
    go_wp2
    go_ret
    exact ⟨V', c', rfl, ho, hb⟩
theorem sort0 (A : Option Addr) (c : Nat) (w : World) :
    Calls Try.prog 44 #[.slice A 0 c, .func (Fn.func 40) #[] #[]] w fun e w' => e = .returned (.tuple #[]) ∧ w = w' := by
  have C1 : Hid (∀ W, Calls Try.prog 54 #[.slice A 0 c, .int .i64 0, .int .i64 0, .func (Fn.func 40) #[] #[]] W fun e w' => e = .returned (.tuple #[]) ∧ W = w') := fun W => by
    go_enter Try.func54, Try.ntmps54
    go_wp2
    refine wp_loop_rounds 1 ?_
    rw [rounds_succ]
    go_wp2
    go_end0
    exact ⟨rfl, rfl⟩
  have C : Hid (Calls Try.prog 52 #[.slice A 0 c, .int .i64 0, .func (Fn.func 40) #[] #[]] w fun e w' => e = .returned (.tuple #[]) ∧ w = w') := by
    go_enter Try.func52, Try.ntmps52
    go_wp2
    refine wp_loop_rounds 1 ?_
    rw [rounds_succ]
    go_wp2_with fail
    refine (C1.out _).mono ?_
    rintro e w' ⟨rfl, rfl⟩
    go_wp2
    refine wp_loop_rounds 1 ?_
    rw [rounds_succ]
    go_wp2
    go_end0
    exact ⟨rfl, rfl⟩
  go_enter Try.func44, Try.ntmps44
  go_wp2_with fail
  refine C.out.mono ?_
  rintro e w2 ⟨rfl, rfl⟩
  go_wp2
  go_end0
  exact ⟨rfl, rfl⟩
theorem sets_any (A : Option Addr) (n c : Nat) (ds : List Own1) (w : World) (hP : PR w A n ds) (hn : n ≤ 1000000) (hlen : (flat ds).length ≤ 140737488355328) :
    Calls Try.prog 20 #[.slice A n c] w (Fresh w (sortQ (ds.map txt)).flatten) := by
  have CL := Lib.hid (clone_any A n c ds w hP hn)
  have HP := Lib.hid hP
  clear hP
  by_cases h0 : n = 0
  · subst h0
    have S := Lib.hid (fun A c W => sort0 A c W)
    have hd : ds = [] := List.length_eq_zero_iff.1 HP.out.len
    subst hd
    go_enter Try.func20, Try.ntmps20
    go_wp2_with fail
    refine CL.out.mono ?_
    rintro e w1 ⟨A2, c2, rfl, ho, hb1⟩
    go_wp2_with fail
    refine (S.out _ _ _).mono ?_
    rintro e w' ⟨rfl, rfl⟩
    have J := Lib.hid (joinP_any A2 0 c2 [] w1 ⟨rfl, ho.reads, fun x hx => by cases hx⟩ (by omega) (by simp [flat]))
    have HB := Lib.hid hb1
    clear ho hb1
    go_wp2_with fail
    refine J.out.mono ?_
    rintro e w2 ⟨A3, n3, c3, rfl, hown, hb2⟩
    go_wp2
    go_ret
    exact ⟨A3, n3, c3, rfl, by rw [show (sortQ (([] : List Own1).map txt)).flatten = flat [] by simp [sortQ, flat]]; exact hown.lower HB.out.size, kp_call HB.out hb2⟩
  · have HL := Lib.hid hlen
    clear hlen
    go_enter Try.func20, Try.ntmps20
    go_wp2_with fail
    refine CL.out.mono ?_
    rintro e w1 ⟨A2, c2, rfl, ho, hb1⟩
    obtain ⟨g, rfl, hg1, hg2⟩ := ho.shape (by have := ho.cap.1; omega)
    have S := Lib.hid (sortStable_any w w1 g n c2 ds ⟨ho, hb1, fun x hx => HP.out.ok x hx⟩ (by omega))
    clear ho hb1
    go_wp2_with fail
    refine S.out.mono ?_
    rintro e w2 ⟨rfl, dz, hst, hlk, hso⟩
    have HQ : Hid (flat dz = (sortQ (ds.map txt)).flatten) := by
      unfold Hid flat
      rw [sortQ_of hst.len hlk.perm hso]
    have J := Lib.hid (joinP_any (some ⟨g, 0, none⟩) n c2 dz w2 ⟨hst.len, hst.own.reads, fun x hx => hst.rb (List.mem_iff_getElem?.1 hx).choose_spec hst.bel⟩ hn (by rw [flat_len_perm hlk.perm]; exact HL.out))
    have HB := Lib.hid hst.bel
    clear hst hlk hso
    go_wp2_with fail
    refine J.out.mono ?_
    rintro e w3 ⟨A3, n3, c3, rfl, hown, hb2⟩
    go_wp2
    go_ret
    rw [HQ.out] at hown
    exact ⟨A3, n3, c3, rfl, hown.lower HB.out.size, kp_call HB.out hb2⟩
end Go.Proofs.Ytamkbedbkjndgaa

/-
  der: the document's numbers, and its Oid.
-/
import Derived.Test.YtlkiobngafjeiaaDrO
namespace Go.Proofs.Ytlkiobngafjeiaa
open Go.RowKit Go
set_option linter.unusedVariables false
set_option maxRecDepth 100000
def NumsPost (w : World) (bs : List UInt8) (e : Ending) (w' : World) : Prop :=
  (match numsQ bs with
    | some (x :: r) => ∃ A n c, e = .returned (.tuple #[.slice A n c, .bool true]) ∧ OwnR w' w.heap.size 70 1 A n c ((x :: r).map u64v)
    | _ => ∃ A c, e = .returned (.tuple #[.slice A 0 c, .bool false])) ∧ Below w.heap.size w w'
theorem nums_no {w w' : World} {bs : List UInt8} {A : Option Addr} {c : Nat} (h : numsQ bs = none ∨ numsQ bs = some []) (hb : Below w.heap.size w w') : NumsPost w bs (.returned (.tuple #[.slice A 0 c, .bool false])) w' := by
  unfold NumsPost; rcases h with h | h <;> (rw [h]; exact ⟨⟨A, c, rfl⟩, hb⟩)
theorem nums_yes {w w' : World} {bs : List UInt8} {x : Nat} {r : List Nat} {A : Option Addr} {n c : Nat} (h : numsQ bs = some (x :: r)) (ho : OwnR w' w.heap.size 70 1 A n c ((x :: r).map u64v)) (hb : Below w.heap.size w w') : NumsPost w bs (.returned (.tuple #[.slice A n c, .bool true])) w' := by
  unfold NumsPost; rw [h]; exact ⟨⟨A, n, c, rfl, ho⟩, hb⟩
theorem drop_cons {α : Type} {l : List α} {m : Nat} {d : α} (h : l[m]? = some d) : l.drop m = d :: l.drop (m + 1) := by
  have hm : m < l.length := (List.getElem?_eq_some_iff.1 h).1
  have h2 := (List.getElem?_eq_some_iff.1 h).2
  rw [List.drop_eq_getElem_cons hm, h2]
set_option maxHeartbeats 1000000 in
theorem nums_any (A : Option Addr) (n c : Nat) (bs : List UInt8) (w : World) (hR : RB w A n bs) (hn : n ≤ 1000000000) :
    Calls Try.prog 69 #[.slice A n c] w (NumsPost w bs) := by
  have HR := Lib.hid hR
  clear hR
  go_enter Try.func69, Try.ntmps69
  go_wp2
  go_loopw [5, 4] (fun i u wl => ∃ (k : Nat) (A2 : Option Addr) (n2 c2 : Nat) (pre : List Nat), k ≤ n ∧ i = .int .i64 k ∧ u = .slice A2 n2 c2 ∧ OwnR wl w.heap.size 70 1 A2 n2 c2 (pre.map u64v) ∧ Below w.heap.size w wl ∧ Hid (numsQ bs = (numsQ (bs.drop k)).map (pre ++ ·)) ∧ pre.length ≤ k) (fun i _ _ => n - (intOf i).toNat)
  case atStart => exact ⟨0, none, 0, 0, [], Nat.zero_le _, rfl, rfl, OwnR.nil _ _ _ _, Below.refl _ _, by unfold Hid; simp, Nat.le_refl _⟩
  case round =>
    obtain ⟨k, A2, n2, c2, pre, hk, rfl, rfl, hown, hbl, HX, hp⟩ := hrel
    have HL2 : Hid (pre.length = n2) := by unfold Hid; have := hown.len; simpa using this
    have hn2 : n2 ≤ k := by rw [← HL2.out]; exact hp
    have hsz := hbl.size
    clear hp
    by_cases hlt : k < n
    · obtain ⟨b, off, d, rfl, hb, hd, hcell⟩ := (HR.out.below hbl).at_ hlt
      have HD := Lib.hid (drop_cons hd)
      have HD0 := Lib.hid hd
      clear hd
      by_cases hd8 : d.toNat = 128
      · have t0 : ((d.toNat : Int) == 128) = true := by simp; omega
        have HN : Hid (numsQ bs = none) := by
          unfold Hid
          rw [HX.out, numsQ_none (by rw [HD.out]; simp) (by rw [HD.out]; show numG _ 0 0 = none; rw [numG_cons, if_pos (.inl ⟨rfl, hd8⟩)])]
          rfl
        clear hd8
        go_wp2
        go_ret2
        exact nums_no (.inl HN.out) hbl
      have t0 : ((d.toNat : Int) == 128) = false := by simp; omega
      go_wp2
      go_loop [5, 6] (fun i x => ∃ m X : Nat, k ≤ m ∧ m ≤ n ∧ i = .int .i64 m ∧ x = .int .u64 X ∧ X < 18446744073709551616 ∧ Hid (numQ (bs.drop k) = numG (bs.drop m) X (m - k))) (fun i _ => n - (intOf i).toNat)
      case atStart => exact ⟨k, 0, Nat.le_refl _, hk, rfl, rfl, by decide, by unfold Hid; rw [Nat.sub_self]; rfl⟩
      case round =>
        obtain ⟨m, X, hkm, hm, rfl, rfl, hX, HQ⟩ := hrel
        clear hcell
        by_cases hmn : m < n
        · obtain ⟨b', off', y, e', _, hy, cy⟩ := (HR.out.below hbl).at_ hmn
          cases e'
          have HY := Lib.hid (drop_cons hy)
          have hyb := y.toNat_lt
          have HQ2 : Hid (numQ (bs.drop k) = if (m - k = 0 ∧ y.toNat = 128) ∨ 144115188075855871 < X then none else if y.toNat < 128 then some (X * 128 + y.toNat, m - k + 1) else numG (bs.drop (m + 1)) (X * 128 + (y.toNat - 128)) (m - k + 1)) := by
            have := HQ.out
            rw [HY.out, numG_cons] at this
            exact this
          have hnot : ¬ (m - k = 0 ∧ y.toNat = 128) := by
            rintro ⟨h1, h2⟩
            obtain rfl : m = k := by omega
            rw [HD0.out] at hy
            cases hy
            exact hd8 h2
          have HNo := Lib.hid hnot
          clear hy hnot HQ
          by_cases hx : 144115188075855871 < X
          · have HN : Hid (numsQ bs = none) := by
              unfold Hid
              rw [HX.out, numsQ_none (by rw [HD.out]; simp) (HQ2.out.trans (if_pos (.inr hx)))]
              rfl
            have t1 : (144115188075855872 : Int) ≤ (X : Int) := by omega
            by_cases h8 : 128 ≤ y.toNat
            · have t2 : (128 : Int) ≤ (y.toNat : Int) := by omega
              clear hd8
              go_wp2
              go_ret2
              exact nums_no (.inl HN.out) hbl
            · have t2 : (y.toNat : Int) < 128 := by omega
              clear hd8
              go_wp2
              go_ret2
              exact nums_no (.inl HN.out) hbl
          · have t1 : decide ((144115188075855872 : Int) ≤ (X : Int)) = false := by simp; omega
            have m1 : IntKind.u64.wrap ((X : Int) * 128) = (X : Int) * 128 := by rw [IntKind.wrap_u64]; omega
            have HQ3 := Lib.hid (HQ2.out.trans (if_neg (by rintro (h | h); exact HNo.out h; exact hx h)))
            by_cases h8 : 128 ≤ y.toNat
            · have t2 : (128 : Int) ≤ (y.toNat : Int) := by omega
              have HQ4 := Lib.hid (HQ3.out.trans (if_neg (by omega)))
              have HF : Hid (X * 128 + (y.toNat - 128) < 18446744073709551616) := by unfold Hid; omega
              have m2 : IntKind.u64.wrap ((X : Int) * 128 + ((y.toNat : Int) - 128)) = (X : Int) * 128 + ((y.toNat : Int) - 128) := by rw [IntKind.wrap_u64]; omega
              clear hd8 hx hX
              go_wp2
              go_round
              case rel => exact ⟨m + 1, X * 128 + (y.toNat - 128), by omega, by omega, by go_num, by congr 1; omega, HF.out, by rw [show m + 1 - k = m - k + 1 by omega]; exact HQ4⟩
              case measure => simp [intOf]; omega
            · have t2 : (y.toNat : Int) < 128 := by omega
              have HQ4 := Lib.hid (HQ3.out.trans (if_pos (by omega)))
              have t3 : ((m : Int) == (n : Int)) = false := by simp; omega
              obtain ⟨Z, hZ⟩ : ∃ Z, X * 128 + y.toNat = Z := ⟨_, rfl⟩
              have hZ2 : (X : Int) * 128 + (y.toNat : Int) = (Z : Int) := by omega
              have HN : Hid (numsQ bs = (numsQ (bs.drop (m + 1))).map ((pre ++ [Z]) ++ ·)) := by
                unfold Hid
                rw [hZ] at HQ4
                rw [HX.out, numsQ_some HQ4.out, Option.map_map, List.drop_drop, show k + (m - k + 1) = m + 1 by omega]
                congr 1
                funext l
                simp
              have m2 : IntKind.u64.wrap ((X : Int) * 128 + (y.toNat : Int)) = (Z : Int) := by rw [IntKind.wrap_u64]; omega
              have hl2 : (pre ++ [Z]).length ≤ m + 1 := by rw [List.length_append, HL2.out]; simp; omega
              have HL3 := Lib.hid hl2
              clear hd8 hx hl2 hZ hX hZ2
              go_wp2_with (at_builtin; refine wpList_appL u64_row _ _ rfl rfl rfl w.heap.size A2 n2 c2 _ rfl (hown.alloc _) _ 1 1 #[.int .u64 (Z : Int)] (0, 0) rfl (heap_alloc_new _ _) rfl (by intro u hu; simp at hu; subst hu; rfl) (by unfold maxLen; omega) (by omega) (by simp; omega) ?_)
              intro A4 c4 w4 hown4 hg4
              have hbl4 : Below w.heap.size w w4 := (hbl.alloc hsz _).grown hg4 (by simp; omega) (fun g hg => (hown.blk_lt hg).1)
              go_wp2
              go_roundw
              case rel => exact ⟨m + 1, A4, _, c4, pre ++ [Z], by omega, by go_num, rfl, by rw [List.map_append]; exact hown4, hbl4, HN, HL3.out⟩
              case measure => simp [intOf]; omega
        · obtain rfl : m = n := by omega
          have HN : Hid (numsQ bs = none) := by
            unfold Hid
            rw [HX.out, numsQ_none (by rw [HD.out]; simp) (by rw [HQ.out, List.drop_of_length_le (by rw [HR.out.1]; exact Nat.le_refl _)]; rfl)]
            rfl
          have t3 : ((m : Int) == (m : Int)) = true := by simp
          clear hd8
          go_wp2
          go_ret2
          exact nums_no (.inl HN.out) hbl
    · obtain rfl : k = n := by omega
      have HN : Hid (numsQ bs = some pre) := by
        unfold Hid
        rw [HX.out, List.drop_of_length_le (by rw [HR.out.1]; exact Nat.le_refl _), numsQ_nil]
        simp
      cases pre with
      | nil =>
        have h20 : n2 = 0 := by have := HL2.out; simpa using this.symm
        subst h20
        go_wp2
        go_ret2
        exact nums_no (.inr HN.out) hbl
      | cons x r =>
        have h20 : 0 < n2 := by have := HL2.out; simp at this; omega
        go_wp2
        go_ret2
        exact nums_yes HN.out hown hbl
theorem numsQ_lt : ∀ (k : Nat) (bs : List UInt8) (l : List Nat), bs.length ≤ k → numsQ bs = some l → ∀ x ∈ l, x < 18446744073709551616
  | 0, bs, l, hk, h => by
    obtain rfl : bs = [] := List.length_eq_zero_iff.1 (by omega)
    rw [numsQ_nil] at h
    cases h
    intro x hx; cases hx
  | k + 1, bs, l, hk, h => by
    by_cases hn : bs = []
    · subst hn
      rw [numsQ_nil] at h
      cases h
      intro x hx; cases hx
    cases hq : numQ bs with
    | none => rw [numsQ_none hn hq] at h; cases h
    | some p =>
      obtain ⟨x, n⟩ := p
      rw [numsQ_some hq] at h
      obtain ⟨l', h1, rfl⟩ := Option.map_eq_some_iff.1 h
      have hle := numQ_le hq
      have ih := numsQ_lt k (bs.drop n) l' (by rw [List.length_drop]; omega) h1
      intro y hy
      rcases List.mem_cons.1 hy with rfl | hy
      · exact numQ_lt hq
      · exact ih y hy
theorem roid_no (A : Option Addr) (n c : Nat) (bs : List UInt8) (w : World) (hR : RB w A n bs) (hn : n ≤ 1000000000) (h : numsQ bs = none ∨ numsQ bs = some []) :
    Calls Try.prog 50 #[.slice A n c] w (OidPost w bs) := by
  have C : Hid (Calls Try.prog 69 #[.slice A n c] w fun e w' => (∃ A c, e = .returned (.tuple #[.slice A 0 c, .bool false])) ∧ Below w.heap.size w w') := (nums_any A n c bs w hR hn).mono fun e w' hp => by
    unfold NumsPost at hp
    rcases h with h | h <;> (rw [h] at hp; exact hp)
  have HN : Hid (oidQ bs = none) := by unfold Hid oidQ; rcases h with h | h <;> rw [h]
  clear h hR
  go_enter Try.func50, Try.ntmps50
  go_wp2_with fail
  refine C.out.mono ?_
  rintro e w1 ⟨⟨A1, c1, rfl⟩, hb⟩
  go_wp2
  go_ret2
  exact oid_no HN.out hb
theorem roid_yes (A : Option Addr) (n c : Nat) (bs : List UInt8) (w : World) (hR : RB w A n bs) (hn : n ≤ 1000000000) (x : Nat) (r : List Nat) (h : numsQ bs = some (x :: r)) (hlen : r.length ≤ 1000000000) :
    Calls Try.prog 50 #[.slice A n c] w (OidPost w bs) := by
  have C : Hid (Calls Try.prog 69 #[.slice A n c] w fun e w' => (∃ A n c, e = .returned (.tuple #[.slice A n c, .bool true]) ∧ OwnR w' w.heap.size 70 1 A n c ((x :: r).map u64v)) ∧ Below w.heap.size w w') := (nums_any A n c bs w hR hn).mono fun e w' hp => by
    unfold NumsPost at hp
    rw [h] at hp; exact hp
  have HN : Hid (oidQ bs = some (arcs (x :: r))) := by unfold Hid oidQ; rw [h]
  have hx : x < 18446744073709551616 := numsQ_lt _ bs _ (Nat.le_refl _) h x (by simp)
  clear h hR
  by_cases hx1 : x < 120
  · have hF : min (x / 40) 2 = x / 40 := by omega
    have h40 : (x : Int) / 40 ≤ (2 : Int) := by omega
    have HA : Hid ((arcs (x :: r)).map u64v = #[Value.int IntKind.u64 ((x : Int) / 40 : Int), Value.int IntKind.u64 ((x : Int) - 40 * ((x : Int) / 40))].toList ++ r.map u64v) := by
      unfold Hid
      simp only [arcs, hF, List.map_cons, u64v]
      show _ = [Value.int IntKind.u64 ((x : Int) / 40 : Int), Value.int IntKind.u64 ((x : Int) - 40 * ((x : Int) / 40))] ++ r.map u64v
      simp only [List.cons_append, List.nil_append]
      congr 2
      all_goals (try congr 1)
      all_goals omega
    clear hF hx1
    go_enter Try.func50, Try.ntmps50
    go_wp2_with fail
    refine C.out.mono ?_
    rintro e w1 ⟨⟨A1, n1, c1, rfl, hown⟩, hb⟩
    have hn1 : n1 = r.length + 1 := by have := hown.len; simp at this; omega
    have hc1 := hown.cap.1
    obtain ⟨g, rfl, hg1, hg2⟩ := hown.shape (by omega)
    have hsz := hb.size
    obtain ⟨b', off', e', _, c0⟩ := hown.reads.at_ (j := 0) (u := u64v x) rfl
    cases e'
    have c0 : w1.cell? ⟨g, 0, none⟩ = some (.int .u64 (x : Int)) := c0
    have HC : Hid (∀ (j : Nat) (u : Value), (r.map u64v)[j]? = some u → w1.cell? ⟨g, 1 + j, none⟩ = some u) := fun j u hu => by
      obtain ⟨b', off', e', _, c0⟩ := hown.reads.at_ (j := 1 + j) (u := u) (by rw [List.map_cons, Nat.add_comm, List.getElem?_cons_succ]; exact hu)
      cases e'
      simpa using c0
    have HLr : Hid ((r.map u64v).length = (n1 - 1) * 1) := by unfold Hid; simp; omega
    have i0 : 0 < n1 := by omega
    have i1 : (1 : Int) ≤ (n1 : Int) := by omega
    have i2 : (n1 : Int) ≤ (c1 : Int) := by omega
    have hn2 : n1 ≤ 1000000001 := by omega
    have h1c : ∀ u ∈ r.map u64v, u.oneCell' = true := by intro u hu; simp at hu; obtain ⟨y, _, rfl⟩ := hu; rfl
    have H1c := Lib.hid h1c
    have Hn1 := Lib.hid hn1
    clear hn1 h1c hown
    by_cases hcap : c1 = 1
    · obtain rfl : n1 = 1 := by omega
      obtain rfl : r = [] := List.length_eq_zero_iff.1 (by have := Hn1.out; omega)
      subst hcap
      go_wp2_with (at_builtin; refine wpList_appR u64_row _ _ rfl rfl rfl w1.heap.size (some ⟨w1.heap.size, 0, none⟩) 2 2 #[Value.int IntKind.u64 ((x : Int) / 40 : Int), Value.int IntKind.u64 ((x : Int) - 40 * ((x : Int) / 40))].toList rfl (OwnR.lit w1 _ 1 _ 2 (by unfold maxLen; omega) rfl) ⟨g, 0, none⟩ 0 0 [] rfl rfl (by intro j u hj; simp at hj) (by intro u hu; cases hu) (by unfold maxLen; omega) (by omega) (by simp) ?_)
      intro A4 c4 w4 hown4 hg4
      have hbl4 : Below w.heap.size w w4 := (hb.alloc hsz _).grown hg4 (by simp; omega) (fun g hg => by injection hg with hg; subst hg; exact hsz)
      go_wp2
      go_ret2
      exact oid_yes HN.out (by rw [HA.out]; exact hown4.lower hsz) hbl4
    · go_wp2_with (at_builtin; refine wpList_appR u64_row _ _ rfl rfl rfl w1.heap.size (some ⟨w1.heap.size, 0, none⟩) 2 2 #[Value.int IntKind.u64 ((x : Int) / 40 : Int), Value.int IntKind.u64 ((x : Int) - 40 * ((x : Int) / 40))].toList rfl (OwnR.lit w1 _ 1 _ 2 (by unfold maxLen; omega) rfl) ⟨g, 1, none⟩ (n1 - 1) (c1 - 1) (r.map u64v) rfl HLr.out (by
        intro j u hj
        have h9 := HC.out j u hj
        rw [show ((⟨g, 1, none⟩ : Addr).add j) = ⟨g, 1 + j, none⟩ by unfold Addr.add; split <;> simp_all]
        exact (World.cell?_alloc_lt w1 _ ⟨g, 1 + j, none⟩ hg2).trans h9) H1c.out (by unfold maxLen; omega) (by omega) (by simp) ?_)
      intro A4 c4 w4 hown4 hg4
      have hbl4 : Below w.heap.size w w4 := (hb.alloc hsz _).grown hg4 (by simp; omega) (fun g hg => by injection hg with hg; subst hg; exact hsz)
      go_wp2
      go_ret2
      exact oid_yes HN.out (by rw [HA.out]; exact hown4.lower hsz) hbl4
  · have hF : min (x / 40) 2 = 2 := by omega
    have h40 : (2 : Int) < (x : Int) / 40 := by omega
    have HA : Hid ((arcs (x :: r)).map u64v = #[Value.int IntKind.u64 (2 : Int), Value.int IntKind.u64 ((x : Int) - 80)].toList ++ r.map u64v) := by
      unfold Hid
      simp only [arcs, hF, List.map_cons, u64v]
      show _ = [Value.int IntKind.u64 (2 : Int), Value.int IntKind.u64 ((x : Int) - 80)] ++ r.map u64v
      simp only [List.cons_append, List.nil_append]
      congr 2
      all_goals (try congr 1)
      all_goals omega
    clear hF hx1
    go_enter Try.func50, Try.ntmps50
    go_wp2_with fail
    refine C.out.mono ?_
    rintro e w1 ⟨⟨A1, n1, c1, rfl, hown⟩, hb⟩
    have hn1 : n1 = r.length + 1 := by have := hown.len; simp at this; omega
    have hc1 := hown.cap.1
    obtain ⟨g, rfl, hg1, hg2⟩ := hown.shape (by omega)
    have hsz := hb.size
    obtain ⟨b', off', e', _, c0⟩ := hown.reads.at_ (j := 0) (u := u64v x) rfl
    cases e'
    have c0 : w1.cell? ⟨g, 0, none⟩ = some (.int .u64 (x : Int)) := c0
    have HC : Hid (∀ (j : Nat) (u : Value), (r.map u64v)[j]? = some u → w1.cell? ⟨g, 1 + j, none⟩ = some u) := fun j u hu => by
      obtain ⟨b', off', e', _, c0⟩ := hown.reads.at_ (j := 1 + j) (u := u) (by rw [List.map_cons, Nat.add_comm, List.getElem?_cons_succ]; exact hu)
      cases e'
      simpa using c0
    have HLr : Hid ((r.map u64v).length = (n1 - 1) * 1) := by unfold Hid; simp; omega
    have i0 : 0 < n1 := by omega
    have i1 : (1 : Int) ≤ (n1 : Int) := by omega
    have i2 : (n1 : Int) ≤ (c1 : Int) := by omega
    have hn2 : n1 ≤ 1000000001 := by omega
    have h1c : ∀ u ∈ r.map u64v, u.oneCell' = true := by intro u hu; simp at hu; obtain ⟨y, _, rfl⟩ := hu; rfl
    have H1c := Lib.hid h1c
    have Hn1 := Lib.hid hn1
    clear hn1 h1c hown
    by_cases hcap : c1 = 1
    · obtain rfl : n1 = 1 := by omega
      obtain rfl : r = [] := List.length_eq_zero_iff.1 (by have := Hn1.out; omega)
      subst hcap
      go_wp2_with (at_builtin; refine wpList_appR u64_row _ _ rfl rfl rfl w1.heap.size (some ⟨w1.heap.size, 0, none⟩) 2 2 #[Value.int IntKind.u64 (2 : Int), Value.int IntKind.u64 ((x : Int) - 80)].toList rfl (OwnR.lit w1 _ 1 _ 2 (by unfold maxLen; omega) rfl) ⟨g, 0, none⟩ 0 0 [] rfl rfl (by intro j u hj; simp at hj) (by intro u hu; cases hu) (by unfold maxLen; omega) (by omega) (by simp) ?_)
      intro A4 c4 w4 hown4 hg4
      have hbl4 : Below w.heap.size w w4 := (hb.alloc hsz _).grown hg4 (by simp; omega) (fun g hg => by injection hg with hg; subst hg; exact hsz)
      go_wp2
      go_ret2
      exact oid_yes HN.out (by rw [HA.out]; exact hown4.lower hsz) hbl4
    · go_wp2_with (at_builtin; refine wpList_appR u64_row _ _ rfl rfl rfl w1.heap.size (some ⟨w1.heap.size, 0, none⟩) 2 2 #[Value.int IntKind.u64 (2 : Int), Value.int IntKind.u64 ((x : Int) - 80)].toList rfl (OwnR.lit w1 _ 1 _ 2 (by unfold maxLen; omega) rfl) ⟨g, 1, none⟩ (n1 - 1) (c1 - 1) (r.map u64v) rfl HLr.out (by
        intro j u hj
        have h9 := HC.out j u hj
        rw [show ((⟨g, 1, none⟩ : Addr).add j) = ⟨g, 1 + j, none⟩ by unfold Addr.add; split <;> simp_all]
        exact (World.cell?_alloc_lt w1 _ ⟨g, 1 + j, none⟩ hg2).trans h9) H1c.out (by unfold maxLen; omega) (by omega) (by simp) ?_)
      intro A4 c4 w4 hown4 hg4
      have hbl4 : Below w.heap.size w w4 := (hb.alloc hsz _).grown hg4 (by simp; omega) (fun g hg => by injection hg with hg; subst hg; exact hsz)
      go_wp2
      go_ret2
      exact oid_yes HN.out (by rw [HA.out]; exact hown4.lower hsz) hbl4
theorem numsQ_len : ∀ (k : Nat) (bs : List UInt8) (l : List Nat), bs.length ≤ k → numsQ bs = some l → l.length ≤ bs.length
  | 0, bs, l, hk, h => by
    obtain rfl : bs = [] := List.length_eq_zero_iff.1 (by omega)
    rw [numsQ_nil] at h
    cases h
    simp
  | k + 1, bs, l, hk, h => by
    by_cases hn : bs = []
    · subst hn
      rw [numsQ_nil] at h
      cases h
      simp
    cases hq : numQ bs with
    | none => rw [numsQ_none hn hq] at h; cases h
    | some p =>
      obtain ⟨x, n⟩ := p
      rw [numsQ_some hq] at h
      obtain ⟨l', h1, rfl⟩ := Option.map_eq_some_iff.1 h
      have hle := numQ_le hq
      have ih := numsQ_len k (bs.drop n) l' (by rw [List.length_drop]; omega) h1
      rw [List.length_drop] at ih
      simp; omega
theorem roid_any (A : Option Addr) (n c : Nat) (bs : List UInt8) (w : World) (hR : RB w A n bs) (hn : n ≤ 1000000000) :
    Calls Try.prog 50 #[.slice A n c] w (OidPost w bs) := by
  cases h : numsQ bs with
  | none => exact roid_no A n c bs w hR hn (.inl h)
  | some l => cases l with
    | nil => exact roid_no A n c bs w hR hn (.inr h)
    | cons x r =>
      have := numsQ_len _ bs _ (Nat.le_refl _) h
      rw [hR.1] at this
      simp at this
      exact roid_yes A n c bs w hR hn x r h (by omega)
end Go.Proofs.Ytlkiobngafjeiaa

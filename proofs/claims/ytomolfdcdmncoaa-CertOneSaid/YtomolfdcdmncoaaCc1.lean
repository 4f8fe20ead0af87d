/-
  cert: what bytes say as a certificate, in plain words.
-/
import Derived.Test.YtomolfdcdmncoaaCb6
import Derived.Test.YtomolfdcdmncoaaCb4
import Derived.Test.YtomolfdcdmncoaaCb3
import Derived.Test.YtomolfdcdmncoaaCb7
import Derived.Test.YtomolfdcdmncoaaStJ
import Derived.Test.YtomolfdcdmncoaaCb1
import Derived.Deep.Slices
namespace Go.Proofs.Ytomolfdcdmncoaa
open Go.RowKit Go
set_option linter.unusedVariables false
set_option maxRecDepth 100000
/-- An element: all its bytes, and its body. -/
abbrev El := List UInt8 × List UInt8
def tg (x : El) : Nat := nth x.1 0
def gd (p : Prop) [Decidable p] : Option Unit := if p then some () else none
theorem gd_yes {p : Prop} [Decidable p] (h : p) : gd p = some () := if_pos h
theorem gd_no {p : Prop} [Decidable p] (h : ¬ p) : gd p = none := if_neg h
theorem gd_some {p : Prop} [Decidable p] {u : Unit} (h : gd p = some u) : p := by
  unfold gd at h; split at h
  · assumption
  · cases h
def wiQ (x : El) (t : Nat) : Option (List El) := (gd (tg x = t)).bind fun _ => allQ x.2
def nxQ : List El → Option (El × List El)
  | [] => none
  | x :: r => some (x, r)
def enQ : List El → Option Unit
  | [] => some ()
  | _ :: _ => none
def siQ (b : List UInt8) : Option El := (splitQ b).bind fun p => (gd (p.2 = b.length)).bind fun _ => some (b.take p.2, (b.take p.2).drop p.1)
def nuQ (x : El) : Option (List UInt8) := (gd (tg x = 2)).bind fun _ => intQ x.2
def smQ (x : El) (m : Nat) : Option Nat := (nuQ x).bind fun b => (gd (b.length < 8)).bind fun _ => (gd (beN b < m)).bind fun _ => some (beN b)
def odQ (x : El) : Option (List Nat) := (gd (tg x = 6)).bind fun _ => oidQ x.2
def wbQ (x : El) : Option (List UInt8) := (gd (tg x = 3)).bind fun _ => (bitsQ x.2).bind fun p => (gd (p.2 = 0)).bind fun _ => some p.1
def itQ (x : El) : Option Unit := gd (tg x = 1 ∧ x.2 = [255])
def meQ (x : El) (k : Nat) : Option Unit :=
  (wiQ x 48).bind fun l => (nxQ l).bind fun p => (odQ p.1).bind fun a => (gd (a = [1, 2, 840, 113549, 1, 1, k])).bind fun _ =>
  (nxQ p.2).bind fun q => (gd (tg q.1 = 5 ∧ q.1.2 = [])).bind fun _ => enQ q.2
def keQ (x : El) : Option (List UInt8 × Nat) :=
  (wiQ x 48).bind fun l => (nxQ l).bind fun p => (meQ p.1 1).bind fun _ => (nxQ p.2).bind fun q => (wbQ q.1).bind fun b => (siQ b).bind fun y =>
  (wiQ y 48).bind fun m => (enQ q.2).bind fun _ => (nxQ m).bind fun r => (nuQ r.1).bind fun n => (nxQ r.2).bind fun s => (smQ s.1 8589934592).bind fun e =>
  (enQ s.2).bind fun _ => some (n, e)
def moQ (x : El) : Option Tm := if tg x = 23 then utcO x.2 else if tg x = 24 then genO x.2 else none
def spQ (x : El) : Option (Tm × Tm) :=
  (wiQ x 48).bind fun l => (nxQ l).bind fun p => (moQ p.1).bind fun f => (nxQ p.2).bind fun q => (moQ q.1).bind fun t => (enQ q.2).bind fun _ =>
  (gd (lessB t f = false)).bind fun _ => some (f, t)
def seQ (x : El) : Option (List UInt8) := (nuQ x).bind fun n => (gd (0 < n.length ∧ x.2.length ≤ 20)).bind fun _ => some x.2
def anQ (x : El) : Option (List UInt8) := (gd (tg x = 48)).bind fun _ => some x.1
def coQ (x : El) : Option (Bool × Int) :=
  (wiQ x 48).bind fun l => match l with
    | [] => some (false, -1)
    | a :: r => (itQ a).bind fun _ => match r with
      | [] => some (true, -1)
      | b :: s => (smQ b 256).bind fun v => (enQ s).bind fun _ => some (true, (v : Int))
/-- A bit of bytes, the highest of each first. -/
def bitN (b : List UInt8) (i : Nat) : Nat := nth b (i / 8) / 2 ^ (7 - i % 8) % 2
def sumB (b : List UInt8) : Nat → Nat
  | 0 => 0
  | k + 1 => sumB b k + bitN b k * 2 ^ k
def usQ (x : El) : Option Nat :=
  (gd (tg x = 3)).bind fun _ => (bitsQ x.2).bind fun p => (gd (p.2 < 8 * p.1.length ∧ 8 * p.1.length - p.2 ≤ 9)).bind fun _ =>
  (gd (bitN p.1 (8 * p.1.length - p.2 - 1) = 1)).bind fun _ => some (sumB p.1 (8 * p.1.length - p.2))
def codeO : List Nat := [1, 3, 6, 1, 5, 5, 7, 3, 3]
def puG : List El → Bool → Option Bool
  | [], c => some c
  | x :: r, c => (odQ x).bind fun a => puG r (c || decide (a = codeO))
def puQ (x : El) : Option Bool := (wiQ x 48).bind fun l => match l with
  | [] => none
  | a :: r => puG (a :: r) false
/-- What is read of a certificate. -/
structure Ce where
  raw : List UInt8
  tbs : List UInt8
  iss : List UInt8
  sub : List UInt8
  ser : List UInt8
  frm : Tm
  til : Tm
  n : List UInt8
  e : Nat
  sig : List UInt8
  ca : Bool
  path : Int
  usage : Int
  code : Bool
/-- What extensions turn. -/
structure Xt where
  ca : Bool
  path : Int
  usage : Int
  code : Bool
def xt0 : Xt := ⟨false, -1, -1, true⟩
def exQ (c : Xt) (a : List Nat) (crit : Bool) (body : List UInt8) : Option Xt :=
  if a = [2, 5, 29, 19] then (siQ body).bind fun y => (coQ y).bind fun p => some { c with ca := p.1, path := p.2 }
  else if a = [2, 5, 29, 15] then (siQ body).bind fun y => (usQ y).bind fun u => some { c with usage := (u : Int) }
  else if a = [2, 5, 29, 37] then (siQ body).bind fun y => (puQ y).bind fun d => some { c with code := d }
  else if crit then none else some c
/-- One extension: its identifier, its arcs, whether it is critical, and its octets. -/
def oxQ (x : El) (seen : List (List UInt8)) : Option (List UInt8 × List Nat × Bool × List UInt8) :=
  (wiQ x 48).bind fun l => (nxQ l).bind fun p => (odQ p.1).bind fun a => (gd (¬ p.1.2 ∈ seen)).bind fun _ =>
  (match p.2 with
    | y :: r => if tg y = 1 then (itQ y).bind fun _ => some (true, r) else some (false, p.2)
    | [] => some (false, p.2)).bind fun q =>
  (nxQ q.2).bind fun s => (gd (tg s.1 = 4)).bind fun _ => (enQ s.2).bind fun _ => some (p.1.2, a, q.1, s.1.2)
def esG : List El → List (List UInt8) → Xt → Option Xt
  | [], _, c => some c
  | x :: r, seen, c => (oxQ x seen).bind fun o => (exQ c o.2.1 o.2.2.1 o.2.2.2).bind fun c' => esG r (o.1 :: seen) c'
def esQ (l : List El) (c : Xt) : Option Xt := match l with
  | [] => none
  | x :: r => esG (x :: r) [] c
def exsQ (l : List El) : Option Xt := match l with
  | [] => some xt0
  | x :: r => (wiQ x 163).bind fun o => (nxQ o).bind fun p => (wiQ p.1 48).bind fun m => (esQ m xt0).bind fun c => (enQ p.2).bind fun _ => (enQ r).bind fun _ => some c
def tbQ (x : El) : Option Ce :=
  (wiQ x 48).bind fun l0 => (nxQ l0).bind fun p0 => (wiQ p0.1 160).bind fun v => (nxQ v).bind fun pv => (smQ pv.1 3).bind fun ver => (gd (ver = 2)).bind fun _ => (enQ pv.2).bind fun _ =>
  (nxQ p0.2).bind fun p1 => (seQ p1.1).bind fun ser => (nxQ p1.2).bind fun p2 => (meQ p2.1 11).bind fun _ => (nxQ p2.2).bind fun p3 => (anQ p3.1).bind fun iss =>
  (nxQ p3.2).bind fun p4 => (spQ p4.1).bind fun sp => (nxQ p4.2).bind fun p5 => (anQ p5.1).bind fun sub => (nxQ p5.2).bind fun p6 => (keQ p6.1).bind fun k =>
  (exsQ p6.2).bind fun c => some ⟨[], [], iss, sub, ser, sp.1, sp.2, k.1, k.2, [], c.ca, c.path, c.usage, c.code⟩
def whQ (b : List UInt8) : Option Ce :=
  (siQ b).bind fun y => (wiQ y 48).bind fun l => (nxQ l).bind fun p => (tbQ p.1).bind fun c => (nxQ p.2).bind fun q => (meQ q.1 11).bind fun _ => (nxQ q.2).bind fun r =>
  (wbQ r.1).bind fun s => (enQ r.2).bind fun _ => some { c with sig := s, raw := b, tbs := p.1.1 }
/-- The error of bytes that are no certificate, or what they say. -/
def certQ (b : List UInt8) : Nat ⊕ Ce := if 8192 < b.length then .inl 10 else if checkQ b ≠ 0 then .inl (checkQ b) else match whQ b with
  | none => .inl 9
  | some c => .inr c
end Go.Proofs.Ytomolfdcdmncoaa
namespace Go.Proofs.Ytomolfdcdmncoaa
open Go.RowKit Go
set_option linter.unusedVariables false
set_option linter.unusedSimpArgs false
set_option maxRecDepth 100000
def flt : PanicEntry := { v := .iface 82 (.agg #[.int .i64 9]), recovered := false }
/-- What a call answers that panics where there is nothing to tell. -/
def PO {α : Type} (w : World) (o : Option α) (R : α → Ending → World → Prop) (e : Ending) (w' : World) : Prop := (match o with
  | none => e = .panicked [flt]
  | some x => R x e w') ∧ Below w.heap.size w w'
section
variable {α : Type} {w w' : World} {o : Option α} {x : α} {R : α → Ending → World → Prop} {e : Ending}
theorem PO.no (hp : PO w o R e w') (h : o = none) : e = .panicked [flt] ∧ Below w.heap.size w w' := by subst h; exact hp
theorem PO.yes (hp : PO w o R e w') (h : o = some x) : R x e w' ∧ Below w.heap.size w w' := by subst h; exact hp
theorem PO.mkNo (h : o = none) (hb : Below w.heap.size w w') : PO w o R (.panicked [flt]) w' := by subst h; exact ⟨rfl, hb⟩
theorem PO.mk (h : o = some x) (hr : R x e w') (hb : Below w.heap.size w w') : PO w o R e w' := by subst h; exact ⟨hr, hb⟩
end
theorem need_yes (w : World) : Calls Try.prog 58 #[.bool true] w fun e w' => e = .returned (.tuple #[]) ∧ w' = w := by
  go_enter Try.func58, Try.ntmps58
  go_wp2
  go_end0
  exact ⟨rfl, rfl⟩
theorem need_no (w : World) : Calls Try.prog 58 #[.bool false] w fun e w' => e = .panicked [flt] ∧ w' = w := by
  go_enter Try.func58, Try.ntmps58
  go_wp2
  exact ⟨rfl, rfl, rfl⟩
abbrev EV.val (v : EV) : Value := .agg #[.int .u8 (v.tag.toNat : Int), .slice v.ba v.bn v.bc, .slice v.ra v.rn v.rc]
def EV.el (v : EV) : El := (v.raw, v.body)
/-- An element that can be read. -/
structure ElV (w : World) (v : EV) : Prop where
  b : RB w v.ba v.bn v.body
  r : RB w v.ra v.rn v.raw
  bc : v.bn ≤ v.bc
  bcc : v.bc ≤ maxLen
  rc : v.rn ≤ v.rc
  rcc : v.rc ≤ maxLen
  bl : v.bn ≤ 1000000
  rl : v.rn ≤ 1000000
  tag : v.raw.getD 0 0 = v.tag
theorem ElV.below {w w' : World} {v : EV} (h : ElV w v) (hb : Below w.heap.size w w') : ElV w' v := ⟨h.b.below hb, h.r.below hb, h.bc, h.bcc, h.rc, h.rcc, h.bl, h.rl, h.tag⟩
theorem ElV.tgq {w : World} {v : EV} (h : ElV w v) : tg v.el = v.tag.toNat := by unfold tg nth EV.el; rw [h.tag]
theorem maxLen_i64 {n : Nat} (h : n ≤ maxLen) : n ≤ 9223372036854775807 := by unfold maxLen at h; omega
/-- What a store into a block of another type leaves. -/
theorem kind_ne {W : World} {A : Option Addr} {e t : TypeId} {q : Nat} {cs : Array Value} {mk : Nat × Nat} (hk : ∀ g, blk A = some g → ∃ cur, W.heap[g]? = some (.cells cur e (0, 0))) (hq : W.heap[q]? = some (.cells cs t mk)) (hne : e ≠ t) : blk A = none ∨ blk A ≠ some q := by
  cases hA : blk A with
  | none => exact .inl rfl
  | some g =>
    right
    intro hh
    injection hh with hh
    subst hh
    obtain ⟨cur, h1⟩ := hk _ hA
    rw [h1] at hq
    injection hq with hq
    injection hq with _ h3
    exact hne h3
/-- An element with memory of its own. -/
structure ElO (w : World) (base : Nat) (v : EV) : Prop where
  b : OwnB w base v.ba v.bn v.bc v.body
  r : OwnB w base v.ra v.rn v.rc v.raw
  bl : v.bn ≤ 1000000
  rl : v.rn ≤ 1000000
  tag : v.raw.getD 0 0 = v.tag
section
variable {w w' W W' : World} {base : Nat} {v : EV}
theorem ElO.vv (h : ElO w base v) : ElV w v := ⟨h.b.rb, h.r.rb, h.b.cap.1, h.b.cap.2, h.r.cap.1, h.r.cap.2, h.bl, h.rl, h.tag⟩
theorem ElO.below (h : ElO w base v) (hb : Below w.heap.size w w') : ElO w' base v := ⟨h.b.below hb (Nat.le_refl _), h.r.below hb (Nat.le_refl _), h.bl, h.rl, h.tag⟩
theorem ElO.lower (h : ElO w base v) {base' : Nat} (hb : base' ≤ base) : ElO w base' v := ⟨h.b.lower hb, h.r.lower hb, h.bl, h.rl, h.tag⟩
theorem ElO.kept (h : ElO w base v) {q : Nat} (hg : w.grownBy w' (some q)) {cs : Array Value} {t : TypeId} {mk : Nat × Nat} (hq : w.heap[q]? = some (.cells cs t mk)) (ht : 5 ≠ t) : ElO w' base v :=
  ⟨h.b.kept hg (kind_ne h.b.kind hq ht), h.r.kept hg (kind_ne h.r.kind hq ht), h.bl, h.rl, h.tag⟩
theorem OwnB.keptK {A : Option Addr} {n c : Nat} {bs : List UInt8} (h : OwnB w base A n c bs) {q : Nat} (hg : w.grownBy w' (some q)) {cs : Array Value} {t : TypeId} {mk : Nat × Nat} (hq : w.heap[q]? = some (.cells cs t mk)) (ht : 5 ≠ t) : OwnB w' base A n c bs :=
  h.kept hg (kind_ne h.kind hq ht)
theorem has_grown {g : Nat} {o : Obj} (h : w.heap[g]? = some o) {q : Nat} (hg : w.grownBy w' (some q)) (hne : g ≠ q) : w'.heap[g]? = some o := (hg.block g (block_lt h) (fun e => hne (by injection e))).trans h
theorem kp_grown (h : Below w.heap.size w W) {q : Nat} (hg : W.grownBy W' (some q)) (hq : w.heap.size ≤ q) : Below w.heap.size w W' := h.grown hg h.size (fun k hk => by injection hk with hk; omega)
end
/-- A row of elements that are taken one after the other: the row's own cell at p. -/
structure RowF (W : World) (base p : Nat) (vs : List EV) (A : Option Addr) (n c : Nat) (A0 : Option Addr) (n0 c0 : Nat) (xs : List Value) : Prop where
  own : OwnR W base 46 3 A0 n0 c0 xs
  sub : ∀ g, blk A = some g → blk A0 = some g
  rd : ReadR W A (vs.flatMap EV.cells)
  len : vs.length = n
  nc : n ≤ c
  cc : c ≤ maxLen
  at_ : W.heap[p]? = some (.cells #[.slice A n c] 114)
  els : ∀ v ∈ vs, ElO W base v
def RowP (W : World) (base p : Nat) (vs : List EV) : Prop := ∃ A n c A0 n0 c0 xs, RowF W base p vs A n c A0 n0 c0 xs
theorem ReadR.keptK {W W' : World} {A : Option Addr} {vs : List Value} (h : ReadR W A vs) {q : Nat} (hg : W.grownBy W' (some q)) (hne : blk A = none ∨ blk A ≠ some q) : ReadR W' A vs := fun hn => by
  obtain ⟨b, off, e, hlt, hc⟩ := h hn
  subst e
  have hbq : b ≠ q := fun e => by
    subst e
    rcases hne with h1 | h1
    · cases h1
    · exact h1 rfl
  exact ⟨b, off, rfl, Nat.lt_of_lt_of_le hlt hg.size, fun j u hu => (World.cell?_of_block (a := ⟨b, off + j, none⟩) (hg.block b hlt (fun e => hbq (by injection e)))).trans (hc j u hu)⟩
section
variable {W W' : World} {base p : Nat} {vs : List EV}
theorem RowP.below (h : RowP W base p vs) (hb : Below W.heap.size W W') : RowP W' base p vs := by
  obtain ⟨A, n, c, A0, n0, c0, xs, h⟩ := h
  exact ⟨A, n, c, A0, n0, c0, xs, h.own.below hb (Nat.le_refl _), h.sub, h.rd.below hb (Nat.le_refl _), h.len, h.nc, h.cc, has_below h.at_ hb, fun v hv => (h.els v hv).below hb⟩
theorem RowP.kept (h : RowP W base p vs) {q : Nat} (hg : W.grownBy W' (some q)) {cs : Array Value} {t : TypeId} {mk : Nat × Nat} (hq : W.heap[q]? = some (.cells cs t mk)) (ht : 5 ≠ t) (ht2 : 46 ≠ t) (hne : p ≠ q) : RowP W' base p vs := by
  obtain ⟨A, n, c, A0, n0, c0, xs, h⟩ := h
  have h0 := kind_ne h.own.kind hq ht2
  refine ⟨A, n, c, A0, n0, c0, xs, h.own.kept hg h0, h.sub, h.rd.keptK hg ?_, h.len, h.nc, h.cc, has_grown h.at_ hg hne, fun v hv => (h.els v hv).kept hg hq ht⟩
  cases hA : blk A with
  | none => exact .inl rfl
  | some g => right; rw [← h.sub g hA]; exact h0.resolve_left (by rw [h.sub g hA]; simp)
theorem RowP.block (h : RowP W base p vs) : ∃ cs, W.heap[p]? = some (.cells cs 114) := by
  obtain ⟨A, n, c, A0, n0, c0, xs, h⟩ := h
  exact ⟨_, h.at_⟩
theorem RowP.lt (h : RowP W base p vs) : p < W.heap.size := by
  obtain ⟨cs, h⟩ := h.block
  exact block_lt h
end
theorem cmore_any (p : Nat) (vs : List EV) (W : World) (base : Nat) (h : RowP W base p vs) : Calls Try.prog 61 #[.pointer (some ⟨p, 0, none⟩)] W fun e w' => e = .returned (.bool (decide (0 < vs.length))) ∧ w' = W := by
  obtain ⟨A, n, c, A0, n0, c0, xs, h⟩ := h
  have x0 := cells_1 h.at_
  have hl := h.len
  subst hl
  clear h
  go_enter Try.func61, Try.ntmps61
  go_wp2
  go_ret
  refine ⟨?_, rfl⟩
  simp
theorem cend_yes (p : Nat) (W : World) (base : Nat) (h : RowP W base p []) : Calls Try.prog 55 #[.pointer (some ⟨p, 0, none⟩)] W fun e w' => e = .returned (.tuple #[]) ∧ w' = W := by
  have M := Lib.hid (cmore_any p [] W base h)
  go_enter Try.func55, Try.ntmps55
  go_wp2_with fail
  refine M.out.mono ?_
  rintro e w' ⟨rfl, rfl⟩
  go_wp2_with fail
  refine (need_yes _).mono ?_
  rintro e w' ⟨rfl, rfl⟩
  go_wp2
  go_end0
  exact ⟨rfl, rfl⟩
theorem cend_no (p : Nat) (v : EV) (vs : List EV) (W : World) (base : Nat) (h : RowP W base p (v :: vs)) : Calls Try.prog 55 #[.pointer (some ⟨p, 0, none⟩)] W fun e w' => e = .panicked [flt] ∧ w' = W := by
  have M := Lib.hid (cmore_any p (v :: vs) W base h)
  rw [show decide (0 < (v :: vs).length) = true by simp] at M
  go_enter Try.func55, Try.ntmps55
  go_wp2_with fail
  refine M.out.mono ?_
  rintro e w' ⟨rfl, rfl⟩
  go_wp2_with fail
  refine (need_no _).mono ?_
  rintro e w' ⟨rfl, rfl⟩
  go_wp2
  exact ⟨rfl, rfl, rfl⟩
theorem cnext_nil (p : Nat) (W : World) (base : Nat) (h : RowP W base p []) : Calls Try.prog 51 #[.pointer (some ⟨p, 0, none⟩)] W fun e w' => e = .panicked [flt] ∧ Below W.heap.size W w' := by
  have M := Lib.hid (cmore_any p [] _ base (h.below (kp_alloc (Below.refl _ _) (.cells #[.int .u8 0, .slice none 0 0, .slice none 0 0] 46))))
  go_enter Try.func51, Try.ntmps51
  go_wp2_with fail
  refine M.out.mono ?_
  rintro e w' ⟨rfl, rfl⟩
  go_wp2_with fail
  refine (need_no _).mono ?_
  rintro e w' ⟨rfl, rfl⟩
  go_wp2
  exact ⟨rfl, rfl, kp_alloc (Below.refl _ _) _⟩
theorem RowF.step {W W' : World} {base p : Nat} {v : EV} {vs : List EV} {b off n c n0 c0 : Nat} {A0 SA : Option Addr} {xs : List Value} (h : RowF W base p (v :: vs) (some ⟨b, off, none⟩) n c A0 n0 c0 xs) (hg : W.grownBy W' (some p))
    (hp : W'.heap[p]? = some (.cells #[.slice SA (n - 1) (c - 1)] 114)) (hSA : (if c = 1 then (some ⟨b, off, none⟩ : Option Addr) else some ⟨b, off + 3, none⟩) = SA) : RowP W' base p vs ∧ ElO W' base v := by
  have hl := h.len
  rw [List.length_cons] at hl
  have hnc := h.nc
  have hcc := h.cc
  have h0 := kind_ne h.own.kind h.at_ (show 46 ≠ 114 by decide)
  have hbA : blk A0 = some b := h.sub b rfl
  have hb : blk SA = some b := by subst hSA; split <;> rfl
  have hne : blk SA = none ∨ blk SA ≠ some p := by right; rw [hb, ← hbA]; exact h0.resolve_left (by rw [hbA]; simp)
  have hu : 5 ≠ 114 := by decide
  refine ⟨⟨SA, n - 1, c - 1, A0, n0, c0, xs, h.own.kept hg h0, fun g hg => by rw [hb] at hg; rw [hbA]; exact hg, ?_, by omega, by omega, by omega, hp, fun x hx => (h.els x (by simp [hx])).kept hg h.at_ hu⟩, (h.els v (by simp)).kept hg h.at_ hu⟩
  refine ReadR.keptK ?_ hg hne
  have hr := h.rd.drop_ 3
  rw [List.flatMap_cons, show (v.cells ++ vs.flatMap EV.cells).drop 3 = vs.flatMap EV.cells from rfl] at hr
  by_cases hc : c = 1
  · have : vs = [] := List.eq_nil_of_length_eq_zero (by omega)
    subst this
    exact ReadR.nil
  · rw [if_neg hc] at hSA
    subst hSA
    simp only [Option.map_some, Addr.add_lit] at hr
    exact hr
set_option maxHeartbeats 2000000 in
theorem cnext_any (p : Nat) (v : EV) (vs : List EV) (W : World) (base : Nat) (h : RowP W base p (v :: vs)) : Calls Try.prog 51 #[.pointer (some ⟨p, 0, none⟩)] W fun e w' => e = .returned v.val ∧ RowP w' base p vs ∧ ElO w' base v ∧ W.grownBy w' (some p) := by
  have M := Lib.hid (cmore_any p (v :: vs) _ base (h.below (kp_alloc (Below.refl _ _) (.cells #[.int .u8 0, .slice none 0 0, .slice none 0 0] 46))))
  rw [show decide (0 < (v :: vs).length) = true by simp] at M
  have HR := Lib.hid h
  obtain ⟨A, n, c, A0, n0, c0, xs, h⟩ := h
  have hfl : (v :: vs).flatMap EV.cells = v.cells ++ vs.flatMap EV.cells := by rw [List.flatMap_cons]
  obtain ⟨b, off, rfl, hlt, hc⟩ := h.rd (by rw [hfl]; simp [EV.cells])
  rw [hfl] at hc
  have hl := h.len
  rw [List.length_cons] at hl
  have hncc := h.nc
  have hbp : b ≠ p := by
    have h1 := h.sub b rfl
    intro e
    subst e
    obtain ⟨cur, h2⟩ := h.own.kind _ h1
    rw [h.at_] at h2
    injection h2 with h2
    injection h2 with _ h3
    revert h3
    decide
  have hpl := block_lt h.at_
  have HC := Lib.hid (fun (j : Nat) u (hj : (v.cells ++ vs.flatMap EV.cells)[j]? = some u) => hc j u hj)
  have HA := Lib.hid h.at_
  have HF := Lib.hid h
  clear hc hfl h
  go_enter Try.func51, Try.ntmps51
  go_wp2_with fail
  refine M.out.mono ?_
  rintro e w' ⟨rfl, rfl⟩
  go_wp2_with fail
  refine (need_yes _).mono ?_
  rintro e w' ⟨rfl, rfl⟩
  go_upto_region 2 with (fail)
  refine wp_nm fun W1 hW1 => ?_
  have HZ : Hid (W1.heap[W.heap.size]? = some (.cells #[.int .u8 0, .slice none 0 0, .slice none 0 0] 46) ∧ Below W.heap.size W W1) := by
    rw [← hW1]; exact Lib.hid ⟨has_new _ _, kp_alloc (Below.refl _ _) _⟩
  clear hW1
  have hsz := HZ.out.2.size
  have hlt1 := block_lt HZ.out.1
  have x0 := cells_1 (has_below HA.out HZ.out.2)
  have fp := free_1 (has_below HA.out HZ.out.2)
  have y0 : W1.cell? ⟨b, off, none⟩ = some (.int .u8 (v.tag.toNat : Int)) := kp_cell HZ.out.2 (HC.out 0 _ rfl)
  have y1 : W1.cell? ⟨b, off + 1, none⟩ = some (.slice v.ba v.bn v.bc) := kp_cell HZ.out.2 (HC.out 1 _ rfl)
  have y2 : W1.cell? ⟨b, off + 2, none⟩ = some (.slice v.ra v.rn v.rc) := kp_cell HZ.out.2 (HC.out 2 _ rfl)
  have hn0 : (0 : Int) < (n : Int) := by omega
  have hn1 : 0 < n := by omega
  have hn2 : (1 : Int) ≤ (n : Int) := by omega
  have hn3 : 1 ≤ n := by omega
  have hn4 : (n : Int) ≤ (c : Int) := by omega
  have hn5 : (1 : Int) ≤ (c : Int) := by omega
  obtain ⟨SA, hSA⟩ : ∃ SA, (if c = 1 then (some ⟨b, off, none⟩ : Option Addr) else some ⟨b, off + 3, none⟩) = SA := ⟨_, rfl⟩
  go_upto_region 3 with (fail)
  clear x0 fp y0 y1 y2
  refine wp_nm fun W2 hW2 => ?_
  have HY : Hid (W2.heap[W1.heap.size]? = some (.cells #[.int .u8 (v.tag.toNat : Int), .slice v.ba v.bn v.bc, .slice v.ra v.rn v.rc] 46) ∧ W2.heap[W.heap.size]? = some (.cells #[.int .u8 0, .slice none 0 0, .slice none 0 0] 46) ∧ Below W.heap.size W W2) := by
    rw [← hW2]; exact Lib.hid ⟨has_new _ _, has_alloc HZ.out.1 _, kp_alloc HZ.out.2 _⟩
  obtain ⟨g1, hg1⟩ : ∃ g1, W1.heap.size = g1 := ⟨_, rfl⟩
  rw [hg1] at hsz hlt1 HY ⊢
  clear hW2 hg1
  have x0 := cells_1 (has_below HA.out HY.out.2.2)
  have fp := free_1 (has_below HA.out HY.out.2.2)
  have hc1 : c - 1 ≤ maxLen := by have := HF.out.cc; omega
  go_upto_region 4 with (fail)
  clear x0 fp
  refine wp_nm fun W3 hW3 => ?_
  have HX : Hid (W3.heap[p]? = some (.cells #[.slice SA (n - 1) (c - 1)] 114) ∧ W3.heap[g1]? = some (.cells #[.int .u8 (v.tag.toNat : Int), .slice v.ba v.bn v.bc, .slice v.ra v.rn v.rc] 46) ∧ W3.heap[W.heap.size]? = some (.cells #[.int .u8 0, .slice none 0 0, .slice none 0 0] 46) ∧ W.grownBy W3 (some p)) := by
    rw [← hW3]
    exact Lib.hid ⟨set_1 (has_below HA.out HY.out.2.2), has_set HY.out.1 (by omega), has_set HY.out.2.1 (by omega), grown_tr (grown_of_below HY.out.2.2 (Nat.le_refl _) _) (grown_1 _ _)⟩
  clear hW3 HZ HY hc1
  have hneg : W.heap.size ≠ p := by omega
  obtain ⟨z0, z1, z2⟩ := cells_3 HX.out.2.1
  obtain ⟨u0, u1, u2⟩ := cells_3 HX.out.2.2.1
  obtain ⟨f0, f1, f2⟩ := free_3 HX.out.2.2.1
  go_wp2
  refine bodyPost_ret (results_c Try.results51 _ (LV.agg (set_3 HX.out.2.2.1) Try.underlying46 rfl (by kernel_rfl))) rfl ?_
  have hg : W.grownBy (((W3.setCell ⟨W.heap.size, 0, none⟩ (.int .u8 (v.tag.toNat : Int))).setCell ⟨W.heap.size, 1, none⟩ (.slice v.ba v.bn v.bc)).setCell ⟨W.heap.size, 2, none⟩ (.slice v.ra v.rn v.rc)) (some p) := by
    obtain ⟨q1, q2, q3, q4, q5⟩ := HX.out.2.2.2
    have hgr := grown_3 (v0 := .int .u8 (v.tag.toNat : Int)) (v1 := .slice v.ba v.bn v.bc) (v2 := .slice v.ra v.rn v.rc) W3 W.heap.size
    exact ⟨hgr.os.trans q1, hgr.tape.trans q2, hgr.output.trans q3, Nat.le_trans q4 hgr.size, fun k hk hne => (hgr.block k (by omega) (fun e => by injection e with e; omega)).trans (q5 k hk hne)⟩
  have hp := far_3 (v0 := .int .u8 (v.tag.toNat : Int)) (v1 := .slice v.ba v.bn v.bc) (v2 := .slice v.ra v.rn v.rc) W3 W.heap.size p (by omega)
  obtain ⟨r1, r2⟩ := HF.out.step hg (hp.trans HX.out.1) hSA
  exact ⟨rfl, r1, r2, hg⟩
end Go.Proofs.Ytomolfdcdmncoaa
namespace Go.Proofs.Ytomolfdcdmncoaa
open Go.RowKit Go
set_option linter.unusedVariables false
set_option linter.unusedSimpArgs false
set_option maxRecDepth 100000
theorem allQ_memC : ∀ (k : Nat) (bs : List UInt8) (l : List El), bs.length ≤ k → allQ bs = some l → ∀ p ∈ l, p.1.length ≤ bs.length ∧ p.2.length ≤ bs.length
  | k, [], l, _, h => by
    rw [allQ_nil] at h
    cases h
    simp
  | 0, x :: r, l, hk, h => by simp at hk
  | k + 1, x :: r, l, hk, h => by
    cases hq : splitQ (x :: r) with
    | none => rw [allQ_none (by simp) hq] at h; cases h
    | some q =>
      obtain ⟨s, t⟩ := q
      rw [allQ_some hq] at h
      obtain ⟨l', h1, rfl⟩ := Option.map_eq_some_iff.1 h
      have hle := splitQ_le hq
      intro p hp
      rcases List.mem_cons.1 hp with rfl | hp
      · simp only [List.length_take, List.length_drop]
        omega
      · have := allQ_memC k ((x :: r).drop t) l' (by rw [List.length_drop]; simp at hk ⊢; omega) h1 p hp
        rw [List.length_drop] at this
        omega
theorem allP_no {w w' : World} {bs : List UInt8} {e : Ending} (hp : AllPost w bs e w') (h : allQ bs = none) : e = .returned (.tuple #[.slice none 0 0, .int .i64 9]) ∧ Below w.heap.size w w' := by
  unfold AllPost at hp; rw [h] at hp; exact hp
theorem allP_yes {w w' : World} {bs : List UInt8} {e : Ending} {l : List El} (hp : AllPost w bs e w') (h : allQ bs = some l) : (∃ (A : Option Addr) (n c : Nat) (vs : List EV), e = .returned (.tuple #[.slice A n c, .int .i64 0]) ∧ vs.map EV.el = l ∧ OwnR w' w.heap.size 46 3 A n c (vs.flatMap EV.cells) ∧ Evs w' w.heap.size vs) ∧ Below w.heap.size w w' := by
  unfold AllPost at hp; rw [h] at hp; exact hp
def WIR (w : World) (l : List El) (e : Ending) (w' : World) : Prop := ∃ p vs, e = .returned (.pointer (some ⟨p, 0, none⟩)) ∧ w.heap.size ≤ p ∧ vs.map EV.el = l ∧ RowP w' w.heap.size p vs ∧ (vs.flatMap EV.own).Pairwise Far
set_option maxHeartbeats 2000000 in
theorem within_any (v : EV) (t : Int) (k : Nat) (hk : t = (k : Int)) (w : World) (h : ElV w v) : Calls Try.prog 49 #[v.val, .int .u8 t] w (PO w (wiQ v.el k) (WIR w)) := by
  subst hk
  have HT := Lib.hid h.tgq
  have E := Lib.hid h
  clear h
  go_enter Try.func49, Try.ntmps49
  go_upto_region 1 with (fail)
  refine wp_nm fun W0 hW0 => ?_
  have B : Hid (Below w.heap.size w W0) := by rw [← hW0]; exact Lib.hid (kp_alloc (Below.refl _ _) _)
  have Z : Hid (W0.heap[w.heap.size]? = some (.cells #[.int .u8 (v.tag.toNat : Int), .slice v.ba v.bn v.bc, .slice v.ra v.rn v.rc] 46)) := by rw [← hW0]; exact Lib.hid (has_new _ _)
  clear hW0
  obtain ⟨x0, x1, x2⟩ := cells_3 Z.out
  by_cases hc1 : v.tag.toNat = k
  rotate_left
  · skip
    have p1 : ((v.tag.toNat : Int) == (k : Int)) = false := beq_eq_false_iff_ne.2 (by omega)
    go_wp2_with fail
    refine (need_no _).mono ?_
    rintro e1 W1 ⟨rfl, rfl⟩
    have HN1 := Lib.hid (gd_no (p := tg v.el = k) (by rw [HT.out]; exact hc1))
    go_wp2
    exact ⟨rfl, PO.mkNo (by simp only [wiQ, Option.bind_some, Option.bind_none, nxQ, enQ, List.map_cons, List.map_nil, HN1.out]) B.out⟩
  have p1 : ((v.tag.toNat : Int) == (k : Int)) = true := by rw [hc1]; simp
  go_wp2_with fail
  refine (need_yes _).mono ?_
  rintro e1 W1 ⟨rfl, rfl⟩
  have HN1 := Lib.hid (gd_yes (p := tg v.el = k) (by rw [HT.out]; exact hc1))
  clear p1
  go_wp2_with fail
  refine (all_any v.ba v.bn v.bc v.body _ (E.out.b.below B.out) E.out.bc (by have := E.out.bl; omega) (maxLen_i64 E.out.bcc)).mono ?_
  rintro e W hp
  cases hq : allQ v.body with
  | none =>
    obtain ⟨rfl, hb⟩ := allP_no hp hq
    have hq2 : allQ v.el.2 = none := hq
    go_wp2_with fail
    refine (need_no _).mono ?_
    rintro e W2 ⟨rfl, rfl⟩
    go_wp2
    exact ⟨rfl, PO.mkNo (by simp only [wiQ, HN1.out, hq2, Option.bind_some]) (kp_call B.out hb)⟩
  | some l =>
    obtain ⟨⟨A, n, c, vs, rfl, rfl, ho, hev⟩, hb⟩ := allP_yes hp hq
    have hq2 : allQ v.el.2 = some (vs.map EV.el) := hq
    have HQ := Lib.hid hq2
    have HO := Lib.hid ho
    have HE := Lib.hid hev
    have HB := Lib.hid (kp_call B.out hb)
    have HS := Lib.hid B.out.size
    clear hq hq2 ho hev hb hp x0 x1 x2 Z
    go_wp2_with fail
    refine (need_yes _).mono ?_
    rintro e W2 ⟨rfl, rfl⟩
    go_wp2
    go_ret
    refine PO.mk (x := vs.map EV.el) (by simp only [wiQ, HN1.out, HQ.out, Option.bind_some]) ⟨_, vs, rfl, HB.out.size, rfl, ⟨A, n, c, A, n, c, _, (HO.out.alloc _).lower HS.out, fun _ h => h, (HO.out.alloc _).reads, ?_, HO.out.cap.1, HO.out.cap.2, has_new _ _, ?_⟩, HE.out.far⟩ (kp_alloc HB.out _)
    · have := HO.out.len
      rw [ecells_flat] at this
      omega
    · intro x hx
      have hm := allQ_memC _ v.body _ (Nat.le_refl _) HQ.out (x.raw, x.body) (List.mem_map.2 ⟨x, hx, rfl⟩)
      have h1 := (HE.out.own (x.ba, x.bn, x.bc, x.body) (List.mem_flatMap.2 ⟨x, hx, by simp [EV.own]⟩))
      have h2 := (HE.out.own (x.ra, x.rn, x.rc, x.raw) (List.mem_flatMap.2 ⟨x, hx, by simp [EV.own]⟩))
      have hl := E.out.b.1
      have hbl := E.out.bl
      exact ⟨(h1.alloc _).lower HS.out, (h2.alloc _).lower HS.out, by have := h1.len; simp only at *; omega, by have := h2.len; simp only at *; omega, HE.out.tag x hx⟩
end Go.Proofs.Ytomolfdcdmncoaa
namespace Go.Proofs.Ytomolfdcdmncoaa
open Go.RowKit Go
set_option linter.unusedVariables false
set_option linter.unusedSimpArgs false
set_option maxRecDepth 100000
theorem cnumber_any (v : EV) (w : World) (h : ElV w v) : Calls Try.prog 74 #[v.val] w (PO w (nuQ v.el) fun n e w' => ∃ A k c, e = .returned (.slice A k c) ∧ OwnB w' w.heap.size A k c n) := by
  have HT := Lib.hid h.tgq
  have E := Lib.hid h
  clear h
  go_enter Try.func74, Try.ntmps74
  go_upto_region 1 with (fail)
  refine wp_nm fun W0 hW0 => ?_
  have B : Hid (Below w.heap.size w W0) := by rw [← hW0]; exact Lib.hid (kp_alloc (Below.refl _ _) _)
  have Z : Hid (W0.heap[w.heap.size]? = some (.cells #[.int .u8 (v.tag.toNat : Int), .slice v.ba v.bn v.bc, .slice v.ra v.rn v.rc] 46)) := by rw [← hW0]; exact Lib.hid (has_new _ _)
  clear hW0
  obtain ⟨x0, x1, x2⟩ := cells_3 Z.out
  by_cases hc1 : v.tag.toNat = 2
  rotate_left
  · skip
    have p1 : ((v.tag.toNat : Int) == 2) = false := beq_eq_false_iff_ne.2 (by omega)
    go_wp2_with fail
    refine (need_no _).mono ?_
    rintro e1 W1 ⟨rfl, rfl⟩
    have HN1 := Lib.hid (gd_no (p := tg v.el = 2) (by rw [HT.out]; exact hc1))
    go_wp2
    exact ⟨rfl, PO.mkNo (by simp only [nuQ, Option.bind_some, Option.bind_none, nxQ, enQ, List.map_cons, List.map_nil, HN1.out]) B.out⟩
  have p1 : ((v.tag.toNat : Int) == 2) = true := by rw [hc1]; rfl
  go_wp2_with fail
  refine (need_yes _).mono ?_
  rintro e1 W1 ⟨rfl, rfl⟩
  have HN1 := Lib.hid (gd_yes (p := tg v.el = 2) (by rw [HT.out]; exact hc1))
  clear p1
  go_wp2_with fail
  refine (int_any v.ba v.bn v.bc v.body _ (E.out.b.below B.out) E.out.bc E.out.bcc (by have := E.out.bl; omega) (maxLen_i64 E.out.bcc)).mono ?_
  rintro e W hp
  unfold IntPost at hp
  cases hq : intQ v.body with
  | none =>
    rw [hq] at hp
    obtain ⟨rfl, hb⟩ := hp
    have hq2 : intQ v.el.2 = none := hq
    go_wp2_with fail
    refine (need_no _).mono ?_
    rintro e W2 ⟨rfl, rfl⟩
    go_wp2
    exact ⟨rfl, PO.mkNo (by simp only [nuQ, HN1.out, hq2, Option.bind_some]) (kp_call B.out hb)⟩
  | some l =>
    rw [hq] at hp
    obtain ⟨⟨A, n, c, rfl, ho⟩, hb⟩ := hp
    have hq2 : intQ v.el.2 = some l := hq
    have HQ := Lib.hid hq2
    have HO := Lib.hid (ho.lower B.out.size)
    have HB := Lib.hid (kp_call B.out hb)
    clear hq hq2 ho hb x0 x1 x2 Z
    go_wp2_with fail
    refine (need_yes _).mono ?_
    rintro e W2 ⟨rfl, rfl⟩
    go_wp2
    go_ret
    exact PO.mk (x := l) (by simp only [nuQ, HN1.out, HQ.out, Option.bind_some]) ⟨A, n, c, rfl, HO.out⟩ HB.out
theorem coid_any (v : EV) (w : World) (h : ElV w v) : Calls Try.prog 78 #[v.val] w (PO w (odQ v.el) fun l e w' => ∃ A k c, e = .returned (.slice A k c) ∧ OwnR w' w.heap.size 26 1 A k c (l.map u64v)) := by
  have HT := Lib.hid h.tgq
  have E := Lib.hid h
  clear h
  go_enter Try.func78, Try.ntmps78
  go_upto_region 1 with (fail)
  refine wp_nm fun W0 hW0 => ?_
  have B : Hid (Below w.heap.size w W0) := by rw [← hW0]; exact Lib.hid (kp_alloc (Below.refl _ _) _)
  have Z : Hid (W0.heap[w.heap.size]? = some (.cells #[.int .u8 (v.tag.toNat : Int), .slice v.ba v.bn v.bc, .slice v.ra v.rn v.rc] 46)) := by rw [← hW0]; exact Lib.hid (has_new _ _)
  clear hW0
  obtain ⟨x0, x1, x2⟩ := cells_3 Z.out
  by_cases hc1 : v.tag.toNat = 6
  rotate_left
  · skip
    have p1 : ((v.tag.toNat : Int) == 6) = false := beq_eq_false_iff_ne.2 (by omega)
    go_wp2_with fail
    refine (need_no _).mono ?_
    rintro e1 W1 ⟨rfl, rfl⟩
    have HN1 := Lib.hid (gd_no (p := tg v.el = 6) (by rw [HT.out]; exact hc1))
    go_wp2
    exact ⟨rfl, PO.mkNo (by simp only [odQ, Option.bind_some, Option.bind_none, nxQ, enQ, List.map_cons, List.map_nil, HN1.out]) B.out⟩
  have p1 : ((v.tag.toNat : Int) == 6) = true := by rw [hc1]; rfl
  go_wp2_with fail
  refine (need_yes _).mono ?_
  rintro e1 W1 ⟨rfl, rfl⟩
  have HN1 := Lib.hid (gd_yes (p := tg v.el = 6) (by rw [HT.out]; exact hc1))
  clear p1
  go_wp2_with fail
  refine (oid_any v.ba v.bn v.bc v.body _ (E.out.b.below B.out) E.out.bc (by have := E.out.bl; omega) (maxLen_i64 E.out.bcc)).mono ?_
  rintro e W hp
  unfold OidPost at hp
  cases hq : oidQ v.body with
  | none =>
    rw [hq] at hp
    obtain ⟨⟨A, c, rfl⟩, hb⟩ := hp
    have hq2 : oidQ v.el.2 = none := hq
    go_wp2_with fail
    refine (need_no _).mono ?_
    rintro e W2 ⟨rfl, rfl⟩
    go_wp2
    exact ⟨rfl, PO.mkNo (by simp only [odQ, HN1.out, hq2, Option.bind_some]) (kp_call B.out hb)⟩
  | some l =>
    rw [hq] at hp
    obtain ⟨⟨A, n, c, rfl, ho⟩, hb⟩ := hp
    have hq2 : oidQ v.el.2 = some l := hq
    have HQ := Lib.hid hq2
    have HO := Lib.hid (ho.lower B.out.size)
    have HB := Lib.hid (kp_call B.out hb)
    clear hq hq2 ho hb x0 x1 x2 Z
    go_wp2_with fail
    refine (need_yes _).mono ?_
    rintro e W2 ⟨rfl, rfl⟩
    go_wp2
    go_ret
    exact PO.mk (x := l) (by simp only [odQ, HN1.out, HQ.out, Option.bind_some]) ⟨A, n, c, rfl, HO.out⟩ HB.out
theorem cwholeBits_any (v : EV) (w : World) (h : ElV w v) : Calls Try.prog 54 #[v.val] w (PO w (wbQ v.el) fun l e w' => ∃ A k c, e = .returned (.slice A k c) ∧ OwnB w' w.heap.size A k c l) := by
  have HT := Lib.hid h.tgq
  have E := Lib.hid h
  clear h
  go_enter Try.func54, Try.ntmps54
  go_upto_region 1 with (fail)
  refine wp_nm fun W0 hW0 => ?_
  have B : Hid (Below w.heap.size w W0) := by rw [← hW0]; exact Lib.hid (kp_alloc (Below.refl _ _) _)
  have Z : Hid (W0.heap[w.heap.size]? = some (.cells #[.int .u8 (v.tag.toNat : Int), .slice v.ba v.bn v.bc, .slice v.ra v.rn v.rc] 46)) := by rw [← hW0]; exact Lib.hid (has_new _ _)
  clear hW0
  obtain ⟨x0, x1, x2⟩ := cells_3 Z.out
  by_cases hc1 : v.tag.toNat = 3
  rotate_left
  · skip
    have p1 : ((v.tag.toNat : Int) == 3) = false := beq_eq_false_iff_ne.2 (by omega)
    go_wp2_with fail
    refine (need_no _).mono ?_
    rintro e1 W1 ⟨rfl, rfl⟩
    have HN1 := Lib.hid (gd_no (p := tg v.el = 3) (by rw [HT.out]; exact hc1))
    go_wp2
    exact ⟨rfl, PO.mkNo (by simp only [wbQ, Option.bind_some, Option.bind_none, nxQ, enQ, List.map_cons, List.map_nil, HN1.out]) B.out⟩
  have p1 : ((v.tag.toNat : Int) == 3) = true := by rw [hc1]; rfl
  go_wp2_with fail
  refine (need_yes _).mono ?_
  rintro e1 W1 ⟨rfl, rfl⟩
  have HN1 := Lib.hid (gd_yes (p := tg v.el = 3) (by rw [HT.out]; exact hc1))
  clear p1
  go_wp2_with fail
  refine (bits_any v.ba v.bn v.bc v.body _ (E.out.b.below B.out) E.out.bc (by have := E.out.bl; omega) (maxLen_i64 E.out.bcc)).mono ?_
  rintro e W hp
  unfold BitsPost at hp
  cases hq : bitsQ v.body with
  | none =>
    rw [hq] at hp
    obtain ⟨rfl, hb⟩ := hp
    have hq2 : bitsQ v.el.2 = none := hq
    go_wp2_with fail
    refine (need_no _).mono ?_
    rintro e W2 ⟨rfl, rfl⟩
    go_wp2
    exact ⟨rfl, PO.mkNo (by simp only [wbQ, HN1.out, hq2, Option.bind_some, Option.bind_none]) (kp_call B.out hb)⟩
  | some l =>
    obtain ⟨l, u⟩ := l
    rw [hq] at hp
    obtain ⟨⟨A, n, c, rfl, ho⟩, hb⟩ := hp
    have hq2 : bitsQ v.el.2 = some (l, u) := hq
    have HQ := Lib.hid hq2
    have HO := Lib.hid (ho.lower B.out.size)
    have HB := Lib.hid (kp_call B.out hb)
    clear hq hq2 ho hb x0 x1 x2 Z
    by_cases hu : u = 0
    rotate_left
    · have p2 : ((u : Int) == 0) = false := beq_eq_false_iff_ne.2 (by omega)
      have HG := Lib.hid (gd_no hu)
      go_wp2_with fail
      refine (need_no _).mono ?_
      rintro e W2 ⟨rfl, rfl⟩
      go_wp2
      exact ⟨rfl, PO.mkNo (by simp only [wbQ, HN1.out, HQ.out, HG.out, Option.bind_some, Option.bind_none]) HB.out⟩
    have p2 : ((u : Int) == 0) = true := by rw [hu]; rfl
    have HG := Lib.hid (gd_yes hu)
    clear hu
    go_wp2_with fail
    refine (need_yes _).mono ?_
    rintro e W2 ⟨rfl, rfl⟩
    go_wp2
    go_ret
    exact PO.mk (x := l) (by simp only [wbQ, HN1.out, HQ.out, HG.out, Option.bind_some]) ⟨A, n, c, rfl, HO.out⟩ HB.out
theorem anything_any (v : EV) (w : World) (h : ElV w v) : Calls Try.prog 64 #[v.val] w (PO w (anQ v.el) fun l e w' => e = .returned (.slice v.ra v.rn v.rc) ∧ l = v.raw) := by
  have HT := Lib.hid h.tgq
  have E := Lib.hid h
  clear h
  go_enter Try.func64, Try.ntmps64
  go_upto_region 1 with (fail)
  refine wp_nm fun W0 hW0 => ?_
  have B : Hid (Below w.heap.size w W0) := by rw [← hW0]; exact Lib.hid (kp_alloc (Below.refl _ _) _)
  have Z : Hid (W0.heap[w.heap.size]? = some (.cells #[.int .u8 (v.tag.toNat : Int), .slice v.ba v.bn v.bc, .slice v.ra v.rn v.rc] 46)) := by rw [← hW0]; exact Lib.hid (has_new _ _)
  clear hW0
  obtain ⟨x0, x1, x2⟩ := cells_3 Z.out
  by_cases hc1 : v.tag.toNat = 48
  rotate_left
  · skip
    have p1 : ((v.tag.toNat : Int) == 48) = false := beq_eq_false_iff_ne.2 (by omega)
    go_wp2_with fail
    refine (need_no _).mono ?_
    rintro e1 W1 ⟨rfl, rfl⟩
    have HN1 := Lib.hid (gd_no (p := tg v.el = 48) (by rw [HT.out]; exact hc1))
    go_wp2
    exact ⟨rfl, PO.mkNo (by simp only [anQ, Option.bind_some, Option.bind_none, nxQ, enQ, List.map_cons, List.map_nil, HN1.out]) B.out⟩
  have p1 : ((v.tag.toNat : Int) == 48) = true := by rw [hc1]; rfl
  go_wp2_with fail
  refine (need_yes _).mono ?_
  rintro e1 W1 ⟨rfl, rfl⟩
  have HN1 := Lib.hid (gd_yes (p := tg v.el = 48) (by rw [HT.out]; exact hc1))
  go_wp2
  go_ret
  exact PO.mk (x := v.raw) (by simp only [anQ, HN1.out, Option.bind_some]; rfl) ⟨rfl, rfl⟩ B.out
theorem isTrue_any (v : EV) (w : World) (h : ElV w v) : Calls Try.prog 80 #[v.val] w (PO w (itQ v.el) fun _ e w' => e = .returned (.tuple #[])) := by
  have HT := Lib.hid h.tgq
  by_cases h1 : v.tag.toNat = 1
  rotate_left
  · have HQ := Lib.hid (show itQ v.el = none from gd_no (fun h9 => h1 (by rw [← HT.out]; exact h9.1)))
    have p1 : ((v.tag.toNat : Int) == 1) = false := beq_eq_false_iff_ne.2 (by omega)
    have E := Lib.hid h
    clear h
    go_enter Try.func80, Try.ntmps80
    go_upto_region 1 with (fail)
    refine wp_nm fun W0 hW0 => ?_
    have B : Hid (Below w.heap.size w W0) := by rw [← hW0]; exact Lib.hid (kp_alloc (Below.refl _ _) _)
    have Z : Hid (W0.heap[w.heap.size]? = some (.cells #[.int .u8 (v.tag.toNat : Int), .slice v.ba v.bn v.bc, .slice v.ra v.rn v.rc] 46)) := by rw [← hW0]; exact Lib.hid (has_new _ _)
    clear hW0
    obtain ⟨x0, x1, x2⟩ := cells_3 Z.out
    go_wp2_with fail
    refine (need_no _).mono ?_
    rintro e W2 ⟨rfl, rfl⟩
    go_wp2
    exact ⟨rfl, PO.mkNo HQ.out B.out⟩
  have p1 : ((v.tag.toNat : Int) == 1) = true := by rw [h1]; rfl
  replace h1 := Lib.hid h1
  by_cases h2 : v.bn = 1
  rotate_left
  · have HQ := Lib.hid (show itQ v.el = none from gd_no (fun h9 => h2 (by have := h.b.1; rw [← this, show v.body = v.el.2 from rfl, h9.2]; rfl)))
    have p2 : ((v.bn : Int) == 1) = false := beq_eq_false_iff_ne.2 (by omega)
    have E := Lib.hid h
    clear h
    go_enter Try.func80, Try.ntmps80
    go_upto_region 1 with (fail)
    refine wp_nm fun W0 hW0 => ?_
    have B : Hid (Below w.heap.size w W0) := by rw [← hW0]; exact Lib.hid (kp_alloc (Below.refl _ _) _)
    have Z : Hid (W0.heap[w.heap.size]? = some (.cells #[.int .u8 (v.tag.toNat : Int), .slice v.ba v.bn v.bc, .slice v.ra v.rn v.rc] 46)) := by rw [← hW0]; exact Lib.hid (has_new _ _)
    clear hW0
    obtain ⟨x0, x1, x2⟩ := cells_3 Z.out
    go_wp2_with fail
    refine (need_no _).mono ?_
    rintro e W2 ⟨rfl, rfl⟩
    go_wp2
    exact ⟨rfl, PO.mkNo HQ.out B.out⟩
  have p2 : ((v.bn : Int) == 1) = true := by rw [h2]; rfl
  have h2x := h2
  obtain ⟨b, off, q, hA, hbl, hq, hcq⟩ := h.b.at_ (k := 0) (by omega)
  obtain ⟨tag, ba, bn, bc, ra, rn, rc, body, raw⟩ := v
  simp only at hA hq h1 h2 p1 p2 h HT
  subst hA
  have HC := Lib.hid hcq
  have hbody : body = [q] := by
    have hl : body.length = bn := h.b.1
    match body, hl, hq with
    | [x], _, hq => simpa using hq
    | [], hl, hq => simp at hq
    | x :: y :: r, hl, _ => simp at hl; omega
  have hbn1 : (0 : Int) < (bn : Int) := by omega
  have hbn2 : 0 < bn := by omega
  clear h2 h2x
  by_cases h3 : q.toNat = 255
  rotate_left
  · have HQ := Lib.hid (show itQ (EV.el ⟨tag, some ⟨b, off, none⟩, bn, bc, ra, rn, rc, body, raw⟩) = none from gd_no (fun h9 => h3 (by
      have h8 : body = [255] := h9.2
      rw [hbody] at h8
      injection h8 with h8 _
      rw [h8]; rfl)))
    have p3 : ((q.toNat : Int) == 255) = false := beq_eq_false_iff_ne.2 (by omega)
    clear hq hbody hcq
    have E := Lib.hid h
    clear h
    go_enter Try.func80, Try.ntmps80
    go_upto_region 1 with (fail)
    refine wp_nm fun W0 hW0 => ?_
    have B : Hid (Below w.heap.size w W0) := by rw [← hW0]; exact Lib.hid (kp_alloc (Below.refl _ _) _)
    have Z : Hid (W0.heap[w.heap.size]? = some (.cells #[.int .u8 ((EV.mk tag (some ⟨b, off, none⟩) bn bc ra rn rc body raw).tag.toNat : Int), .slice (EV.mk tag (some ⟨b, off, none⟩) bn bc ra rn rc body raw).ba (EV.mk tag (some ⟨b, off, none⟩) bn bc ra rn rc body raw).bn (EV.mk tag (some ⟨b, off, none⟩) bn bc ra rn rc body raw).bc, .slice (EV.mk tag (some ⟨b, off, none⟩) bn bc ra rn rc body raw).ra (EV.mk tag (some ⟨b, off, none⟩) bn bc ra rn rc body raw).rn (EV.mk tag (some ⟨b, off, none⟩) bn bc ra rn rc body raw).rc] 46)) := by rw [← hW0]; exact Lib.hid (has_new _ _)
    clear hW0
    obtain ⟨x0, x1, x2⟩ := cells_3 Z.out
    have y0 : W0.cell? ⟨b, off, none⟩ = _ := kp_cell B.out HC.out
    go_wp2_with fail
    refine (need_no _).mono ?_
    rintro e W2 ⟨rfl, rfl⟩
    go_wp2
    exact ⟨rfl, PO.mkNo HQ.out B.out⟩
  have p3 : ((q.toNat : Int) == 255) = true := by rw [h3]; rfl
  have HQ := Lib.hid (show itQ (EV.el ⟨tag, some ⟨b, off, none⟩, bn, bc, ra, rn, rc, body, raw⟩) = some () from gd_yes ⟨by rw [HT.out]; exact h1.out, by
    show body = [255]
    rw [hbody, show q = 255 from UInt8.toNat_inj.1 (h3.trans rfl)]⟩)
  clear hq hbody hcq h3
  have E := Lib.hid h
  clear h
  go_enter Try.func80, Try.ntmps80
  go_upto_region 1 with (fail)
  refine wp_nm fun W0 hW0 => ?_
  have B : Hid (Below w.heap.size w W0) := by rw [← hW0]; exact Lib.hid (kp_alloc (Below.refl _ _) _)
  have Z : Hid (W0.heap[w.heap.size]? = some (.cells #[.int .u8 ((EV.mk tag (some ⟨b, off, none⟩) bn bc ra rn rc body raw).tag.toNat : Int), .slice (EV.mk tag (some ⟨b, off, none⟩) bn bc ra rn rc body raw).ba (EV.mk tag (some ⟨b, off, none⟩) bn bc ra rn rc body raw).bn (EV.mk tag (some ⟨b, off, none⟩) bn bc ra rn rc body raw).bc, .slice (EV.mk tag (some ⟨b, off, none⟩) bn bc ra rn rc body raw).ra (EV.mk tag (some ⟨b, off, none⟩) bn bc ra rn rc body raw).rn (EV.mk tag (some ⟨b, off, none⟩) bn bc ra rn rc body raw).rc] 46)) := by rw [← hW0]; exact Lib.hid (has_new _ _)
  clear hW0
  obtain ⟨x0, x1, x2⟩ := cells_3 Z.out
  have y0 : W0.cell? ⟨b, off, none⟩ = _ := kp_cell B.out HC.out
  go_wp2_with fail
  refine (need_yes _).mono ?_
  rintro e W2 ⟨rfl, rfl⟩
  go_wp2
  go_end0
  exact PO.mk HQ.out rfl B.out
theorem parseP_no {w w' : World} {bs : List UInt8} {e : Ending} (hp : ParsePost w bs e w') (h : splitQ bs = none) : e = .returned (.tuple #[elZ, .slice none 0 0, .int .i64 9]) ∧ Below w.heap.size w w' := by
  unfold ParsePost at hp; rw [h] at hp; exact hp
def SIR (w : World) (x : El) (e : Ending) (w' : World) : Prop := ∃ v : EV, e = .returned v.val ∧ v.el = x ∧ ElO w' w.heap.size v ∧ (blk v.ba = none ∨ blk v.ba ≠ blk v.ra)
theorem getD_take {bs : List UInt8} {t : Nat} (h : 0 < t) : (bs.take t).getD 0 0 = bs.getD 0 0 := by
  cases bs with
  | nil => simp
  | cons x r => obtain ⟨k, rfl⟩ : ∃ k, t = k + 1 := ⟨t - 1, by omega⟩; rfl
set_option maxHeartbeats 2000000 in
theorem single_any (A : Option Addr) (n c : Nat) (bs : List UInt8) (w : World) (hR : RB w A n bs) (hnc : n ≤ c) (hc : c ≤ maxLen) (hn : n ≤ 1000000) : Calls Try.prog 50 #[.slice A n c] w (PO w (siQ bs) (SIR w)) := by
  have HL := Lib.hid hR.1
  have HP := Lib.hid (fun W (hb : Below w.heap.size w W) => parse_any A n c bs W (hR.below hb) hnc (by omega) (maxLen_i64 hc))
  clear hR hnc hc
  go_enter Try.func50, Try.ntmps50
  go_upto_region 1 with (fail)
  refine wp_nm fun W0 hW0 => ?_
  have B : Hid (Below w.heap.size w W0) := by rw [← hW0]; exact Lib.hid (kp_alloc (Below.refl _ _) _)
  have Z : Hid (W0.heap[w.heap.size]? = some (.cells #[.int .u8 0, .slice none 0 0, .slice none 0 0] 46)) := by rw [← hW0]; exact Lib.hid (has_new _ _)
  clear hW0
  go_wp2_with fail
  refine (HP.out _ B.out).mono ?_
  rintro e W hp
  cases hq : splitQ bs with
  | none =>
    obtain ⟨rfl, hb⟩ := parseP_no hp hq
    have HB := Lib.hid (kp_call B.out hb)
    have HQ := Lib.hid hq
    simp only [elZ] at *
    go_wp2_with fail
    refine (need_no _).mono ?_
    rintro e W2 ⟨rfl, rfl⟩
    go_wp2
    exact ⟨rfl, PO.mkNo (by simp only [siQ, HQ.out, Option.bind_none]) (kp_alloc HB.out _)⟩
  | some st =>
    obtain ⟨s, t⟩ := st
    unfold ParsePost at hp
    rw [hq] at hp
    obtain ⟨⟨A1, n1, c1, A2, n2, c2, A3, n3, c3, rfl, ho1, ho2, ho3, hf1, hf2, hf3⟩, hb⟩ := hp
    have hle := splitQ_le hq
    have hl3 := ho3.len
    have hl2 := ho2.len
    have hl1 := ho1.len
    rw [List.length_drop] at hl3
    rw [List.length_take] at hl2
    rw [List.length_drop, List.length_take] at hl1
    have HLE := Lib.hid (show t ≤ bs.length ∧ n3 + t = bs.length ∧ n2 ≤ 1000000 ∧ n1 ≤ 1000000 ∧ 0 < t from ⟨by omega, by omega, by have := HL.out; omega, by have := HL.out; omega, by omega⟩)
    have HB := Lib.hid (kp_call B.out hb)
    have HQ := Lib.hid hq
    have HO := Lib.hid (And.intro (ho1.lower B.out.size) (ho2.lower B.out.size))
    have HF := Lib.hid hf1
    replace Z := Lib.hid (has_below Z.out hb)
    clear hle hl1 hl2 hl3 ho1 ho2 ho3 hf1 hf2 hf3 hb hq
    obtain ⟨tag, htag⟩ : ∃ tag, bs.getD 0 0 = tag := ⟨_, rfl⟩
    have HTG := Lib.hid htag
    simp only [htag]
    clear htag
    by_cases h3 : n3 = 0
    rotate_left
    · have p1 : ((n3 : Int) == 0) = false := beq_eq_false_iff_ne.2 (by omega)
      have HG := Lib.hid (gd_no (p := t = bs.length) (by have := HLE.out; omega))
      go_wp2_with fail
      refine (need_no _).mono ?_
      rintro e W2 ⟨rfl, rfl⟩
      go_wp2
      exact ⟨rfl, PO.mkNo (by simp only [siQ, HQ.out, HG.out, Option.bind_some, Option.bind_none]) (kp_alloc HB.out _)⟩
    have p1 : ((n3 : Int) == 0) = true := by rw [h3]; rfl
    have HG := Lib.hid (gd_yes (p := t = bs.length) (by have := HLE.out; omega))
    clear h3
    go_wp2_with fail
    refine (need_yes _).mono ?_
    rintro e W2 ⟨rfl, rfl⟩
    go_upto_region 3 with (fail)
    refine wp_nm fun W3 hW3 => ?_
    have Y : Hid (W3.heap[W.heap.size]? = some (.cells #[.int .u8 (tag.toNat : Int), .slice A1 n1 c1, .slice A2 n2 c2] 46) ∧ W3.heap[w.heap.size]? = some (.cells #[.int .u8 0, .slice none 0 0, .slice none 0 0] 46) ∧ Below W.heap.size W W3) := by
      rw [← hW3]; exact Lib.hid ⟨has_new _ _, has_alloc Z.out _, kp_alloc (Below.refl _ _) _⟩
    clear hW3
    have hlt := block_lt Z.out
    have hne : w.heap.size ≠ W.heap.size := by omega
    obtain ⟨x0, x1, x2⟩ := cells_3 Y.out.1
    obtain ⟨u0, u1, u2⟩ := cells_3 Y.out.2.1
    obtain ⟨f0, f1, f2⟩ := free_3 Y.out.2.1
    go_wp2
    refine bodyPost_ret (results_c Try.results50 _ (LV.agg (set_3 Y.out.2.1) Try.underlying46 rfl (by kernel_rfl))) rfl ?_
    have hB3 : Below w.heap.size w W3 := kp_call HB.out Y.out.2.2
    have EO : ElO W w.heap.size ⟨tag, A1, n1, c1, A2, n2, c2, (bs.take t).drop s, bs.take t⟩ := ⟨HO.out.1, HO.out.2, HLE.out.2.2.2.1, HLE.out.2.2.1, by rw [← HTG.out]; exact getD_take HLE.out.2.2.2.2⟩
    exact PO.mk (x := (bs.take t, (bs.take t).drop s)) (by simp only [siQ, HQ.out, HG.out, Option.bind_some]) ⟨⟨tag, A1, n1, c1, A2, n2, c2, (bs.take t).drop s, bs.take t⟩, rfl, rfl, (EO.below Y.out.2.2).kept (grown_3 _ _) Y.out.2.1 (by decide), HF.out⟩ (below_3 hB3 (Nat.le_refl _))
end Go.Proofs.Ytomolfdcdmncoaa
namespace Go.Proofs.Ytomolfdcdmncoaa
open Go.RowKit Go
set_option linter.unusedVariables false
set_option linter.unusedSimpArgs false
set_option maxRecDepth 100000
theorem or8u (X : Int) (q : UInt8) (h0 : 0 ≤ X) (h1 : X < 281474976710656) : bits BinOp.or IntKind.u64 (X * 256) (q.toNat : Int) = X * 256 + (q.toNat : Int) := by
  have hq := q.toNat_lt
  exact bits_join .u64 64 (by decide) (fun n h₀ h₁ => by rw [IntKind.wrap_u64]; omega) 8 (X * 256) (q.toNat : Int) (by omega) (by omega) (by omega) (by omega) (by omega) (by omega)
theorem beN_take {l : List UInt8} {j : Nat} {q : UInt8} (h : l[j]? = some q) : beN (l.take (j + 1)) = beN (l.take j) * 256 + q.toNat := by
  rw [List.take_add_one, h]
  exact beN_snoc _ _
theorem read_new {w : World} {cs : Array Value} {t : TypeId} {xs : List Value} (h : cs.toList = xs) : ReadR (w.alloc (.cells cs t)) (some ⟨w.heap.size, 0, none⟩) xs := fun _ => ⟨w.heap.size, 0, rfl, by simp, fun j u hu => by
  subst h
  rw [Nat.zero_add, cell_of_row _ w.heap.size j cs t _ (has_new w _), ← Array.getElem?_toList, hu]⟩
theorem uequal_any (A1 A2 : Option Addr) (n1 n2 c1 c2 : Nat) (xs ys : List Nat) (d : Bool) (hd : decide (xs = ys) = d) (w : World) (h1 : ReadR w A1 (xs.map u64v)) (h2 : ReadR w A2 (ys.map u64v)) (hl1 : xs.length = n1) (hl2 : ys.length = n2) (hn : n1 ≤ 9223372036854775807) (hn2 : n2 ≤ 9223372036854775807) :
    Calls Try.prog 82 #[.slice A1 n1 c1, .slice A2 n2 c2] w fun e w' => e = .returned (.bool d) ∧ Below w.heap.size w w' := by
  by_cases hl : n1 = n2
  · subst hl
    have H1 := Lib.hid h1
    have H2 := Lib.hid h2
    have HL := Lib.hid (And.intro hl1 hl2)
    have HD := Lib.hid hd
    clear h1 h2 hl1 hl2 hd
    go_enter Try.func82, Try.ntmps82
    go_wp2
    go_loopw [13] (fun i wl => ∃ j m : Nat, j ≤ n1 ∧ i = .int .i64 j ∧ wl = w.drewN m ∧ Hid (xs.take j = ys.take j)) (fun i _ => n1 - (intOf i).toNat)
    case atStart => exact ⟨0, 0, Nat.zero_le _, rfl, rfl, rfl⟩
    case round =>
      obtain ⟨j, m, hj, rfl, rfl, HE⟩ := hrel
      by_cases hlt : j < n1
      · obtain ⟨x, hx⟩ : ∃ x, xs[j]? = some x := ⟨xs[j]'(by have := HL.out.1; omega), List.getElem?_eq_getElem _⟩
        obtain ⟨y, hy⟩ : ∃ y, ys[j]? = some y := ⟨ys[j]'(by have := HL.out.2; omega), List.getElem?_eq_getElem _⟩
        obtain ⟨b, off, rfl, _, cx⟩ := H1.out.at_ (j := j) (u := u64v x) (by simp [hx])
        obtain ⟨b', off', rfl, _, cy⟩ := H2.out.at_ (j := j) (u := u64v y) (by simp [hy])
        have HX : Hid (xs.take (j + 1) = xs.take j ++ [x]) := by unfold Hid; rw [List.take_add_one, hx]; rfl
        have HY : Hid (ys.take (j + 1) = ys.take j ++ [y]) := by unfold Hid; rw [List.take_add_one, hy]; rfl
        clear hx hy
        by_cases he : x = y
        · subst he
          have t : ((x : Int) != (x : Int)) = false := by simp
          have HN : Hid (xs.take (j + 1) = ys.take (j + 1)) := by unfold Hid; rw [HX.out, HY.out, HE.out]
          go_wp2
          go_quiet (fail)
          go_wp2
          go_roundw
          case rel => exact ⟨j + 1, _, by omega, by go_num, rfl, HN⟩
          case measure => simp [intOf]; omega
        · have t : ((x : Int) != (y : Int)) = true := by simp; omega
          have HN : Hid (d = false) := by
            unfold Hid
            rw [← HD.out]
            refine decide_eq_false fun e => ?_
            have := HX.out
            rw [e, HY.out] at this
            have h9 := List.append_cancel_left this
            simp at h9
            exact he h9.symm
          clear he
          go_wp2
          go_quiet (fail)
          go_wp2
          go_ret
          exact ⟨by rw [HN.out]; rfl, kp_drewN (kp_drewN (Below.refl _ _) _) _⟩
      · obtain rfl : j = n1 := by omega
        have HN : Hid (d = true) := by
          have h9 := HE.out
          rw [List.take_of_length_le (by rw [HL.out.1]; exact Nat.le_refl _), List.take_of_length_le (by rw [HL.out.2]; exact Nat.le_refl _)] at h9
          unfold Hid
          rw [← HD.out]
          exact decide_eq_true h9
        go_wp2
        go_ret
        exact ⟨by rw [HN.out]; rfl, kp_drewN (Below.refl _ _) _⟩
  · have HN : Hid (d = false) := by
      unfold Hid
      rw [← hd]
      refine decide_eq_false fun e => ?_
      rw [e, hl2] at hl1
      omega
    have t : ((n1 : Int) != (n2 : Int)) = true := by simp; omega
    clear h1 h2 hl hd hl1 hl2
    go_enter Try.func82, Try.ntmps82
    go_wp2
    go_ret
    exact ⟨by rw [HN.out]; rfl, Below.refl _ _⟩
set_option maxHeartbeats 2000000 in
theorem small_any (v : EV) (t : Int) (k : Nat) (hk : t = (k : Int)) (hk2 : k ≤ 72057594037927936) (w : World) (h : ElV w v) : Calls Try.prog 62 #[v.val, .int .u64 t] w (PO w (smQ v.el k) fun n e w' => e = .returned (.int .u64 (n : Int))) := by
  subst hk
  have E := Lib.hid h
  clear h
  go_enter Try.func62, Try.ntmps62
  go_upto_region 1 with (fail)
  refine wp_nm fun W0 hW0 => ?_
  have B : Hid (Below w.heap.size w W0) := by rw [← hW0]; exact Lib.hid (kp_alloc (Below.refl _ _) _)
  have Z : Hid (W0.heap[w.heap.size]? = some (.cells #[.int .u8 (v.tag.toNat : Int), .slice v.ba v.bn v.bc, .slice v.ra v.rn v.rc] 46)) := by rw [← hW0]; exact Lib.hid (has_new _ _)
  clear hW0
  obtain ⟨x0, x1, x2⟩ := cells_3 Z.out
  go_wp2_with fail
  refine (cnumber_any v _ (E.out.below B.out)).mono ?_
  rintro e1 W1 hp
  cases hq : nuQ v.el with
  | none =>
    obtain ⟨rfl, hb⟩ := hp.no hq
    go_wp2
    exact ⟨rfl, PO.mkNo (by simp only [smQ, Option.bind_some, Option.bind_none, nxQ, enQ, List.map_cons, List.map_nil, hq]) (kp_call B.out hb)⟩
  | some q1 =>
    obtain ⟨⟨A1, n1, c1, rfl, ho1⟩, hb⟩ := hp.yes hq
    have HQ1 := Lib.hid hq
    clear hq hp
    replace B := Lib.hid (kp_call B.out hb)
    replace Z := Lib.hid (has_below Z.out hb)
    clear hb
    have O1 := Lib.hid ho1
    clear ho1 x0 x1 x2 Z
    have hl1 := O1.out.len
    by_cases hc2 : n1 < 8
    rotate_left
    · skip
      have p1 : decide ((n1 : Int) < 8) = false := decide_eq_false (by omega)
      go_wp2_with fail
      refine (need_no _).mono ?_
      rintro e2 W2 ⟨rfl, rfl⟩
      have HN2 := Lib.hid (gd_no (p := q1.length < 8) (by omega))
      go_wp2
      exact ⟨rfl, PO.mkNo (by simp only [smQ, Option.bind_some, Option.bind_none, nxQ, enQ, List.map_cons, List.map_nil, HQ1.out, HN2.out]) B.out⟩
    have p1 : decide ((n1 : Int) < 8) = true := decide_eq_true (by omega)
    go_wp2_with fail
    refine (need_yes _).mono ?_
    rintro e2 W2 ⟨rfl, rfl⟩
    have HN2 := Lib.hid (gd_yes (p := q1.length < 8) (by omega))
    clear p1
    have HL1 := Lib.hid hl1
    clear hl1
    have RB1 := Lib.hid O1.out.rb
    go_wp2_with fail
    go_loop [6, 17] (fun x i => ∃ j X : Nat, j ≤ n1 ∧ i = .int .i64 j ∧ x = .int .u64 X ∧ Hid (X = beN (q1.take j))) (fun _ i => n1 - (intOf i).toNat)
    case atStart => exact ⟨0, 0, Nat.zero_le _, rfl, rfl, rfl⟩
    case round =>
      obtain ⟨j, X, hj, rfl, rfl, HX⟩ := hrel
      have hXl : X < 256 ^ j := by
        rw [HX.out]
        exact beN_lt j _ (by rw [List.length_take, HL1.out]; omega)
      by_cases hlt : j < n1
      · obtain ⟨b, off, d, rfl, hbb, hd, hcell⟩ := RB1.out.at_ hlt
        have hX6 : (X : Int) < 281474976710656 := by
          have := Nat.pow_le_pow_right (n := 256) (by decide) (show j ≤ 6 by omega)
          have h6 : (256 : Nat) ^ 6 = 281474976710656 := by decide
          omega
        have hor := or8u (X : Int) d (by omega) hX6
        have hXi : (0 : Int) ≤ (X : Int) := by omega
        have hwd : IntKind.u64.wrap (d.toNat : Int) = (d.toNat : Int) := by have := d.toNat_lt; rw [IntKind.wrap_u64]; omega
        have HN := Lib.hid (beN_take hd)
        have HP := Lib.hid hXl
        clear hd hXl
        go_wp2
        go_round
        case rel => exact ⟨j + 1, X * 256 + d.toNat, by omega, by go_num, (by first | rfl | (congr 1; omega)), by unfold Hid; rw [HN.out, HX.out]⟩
        case measure => simp [intOf]; omega
      · obtain rfl : j = n1 := by omega
        have HT : Hid (q1.take j = q1) := List.take_of_length_le (by rw [HL1.out]; exact Nat.le_refl _)
        have HXX : Hid (X = beN q1) := by unfold Hid; rw [HX.out, HT.out]
        have hXb : X < 72057594037927936 := by
          have := Nat.pow_le_pow_right (n := 256) (by decide) (show j ≤ 7 by omega)
          have h7 : (256 : Nat) ^ 7 = 72057594037927936 := by decide
          omega
        clear hXl HX
        by_cases hm : X < k
        rotate_left
        · have p2 : decide ((X : Int) < (k : Int)) = false := decide_eq_false (by omega)
          have HG := Lib.hid (gd_no (p := beN q1 < k) (by rw [← HXX.out]; exact hm))
          go_wp2_with fail
          refine (need_no _).mono ?_
          rintro e W2 ⟨rfl, rfl⟩
          go_wp2
          exact ⟨rfl, PO.mkNo (by simp only [smQ, HQ1.out, HN2.out, HG.out, Option.bind_some, Option.bind_none]) B.out⟩
        have p2 : decide ((X : Int) < (k : Int)) = true := decide_eq_true (by omega)
        have HG := Lib.hid (gd_yes (p := beN q1 < k) (by rw [← HXX.out]; exact hm))
        go_wp2_with fail
        refine (need_yes _).mono ?_
        rintro e W2 ⟨rfl, rfl⟩
        go_wp2
        go_ret
        exact PO.mk (x := beN q1) (by simp only [smQ, HQ1.out, HN2.out, HG.out, Option.bind_some]) (by rw [← HXX.out]; rfl) B.out
end Go.Proofs.Ytomolfdcdmncoaa
namespace Go.Proofs.Ytomolfdcdmncoaa
open Go.RowKit Go
set_option linter.unusedVariables false
set_option linter.unusedSimpArgs false
set_option maxRecDepth 100000
set_option maxHeartbeats 4000000 in
theorem method_any (v : EV) (t : Int) (k : Nat) (hk : t = (k : Int)) (w : World) (h : ElV w v) : Calls Try.prog 68 #[v.val, .int .u64 t] w (PO w (meQ v.el k) fun _ e w' => e = .returned (.tuple #[])) := by
  subst hk
  have E := Lib.hid h
  clear h
  go_enter Try.func68, Try.ntmps68
  go_upto_region 1 with (fail)
  refine wp_nm fun W0 hW0 => ?_
  have B : Hid (Below w.heap.size w W0) := by rw [← hW0]; exact Lib.hid (kp_alloc (Below.refl _ _) _)
  have Z : Hid (W0.heap[w.heap.size]? = some (.cells #[.int .u8 (v.tag.toNat : Int), .slice v.ba v.bn v.bc, .slice v.ra v.rn v.rc] 46)) := by rw [← hW0]; exact Lib.hid (has_new _ _)
  clear hW0
  obtain ⟨x0, x1, x2⟩ := cells_3 Z.out
  go_wp2_with fail
  refine (within_any v 48 48 rfl _ (E.out.below B.out)).mono ?_
  rintro e1 W1 hp
  cases hq : wiQ v.el 48 with
  | none =>
    obtain ⟨rfl, hb⟩ := hp.no hq
    go_wp2
    exact ⟨rfl, PO.mkNo (by simp only [meQ, Option.bind_some, Option.bind_none, nxQ, enQ, List.map_cons, List.map_nil, hq]) (kp_call B.out hb)⟩
  | some q1 =>
    obtain ⟨⟨r1, vs, rfl, hpl, rfl, hR, FAR1⟩, hb⟩ := hp.yes hq
    have HQ1 := Lib.hid hq
    clear hq hp
    have lt1Z := Nat.lt_of_lt_of_le (block_lt Z.out) hpl
    have lw1 : w.heap.size ≤ r1 := Nat.le_trans B.out.size hpl
    have F1 := Lib.hid FAR1
    clear FAR1
    replace B := Lib.hid (kp_call B.out hb)
    replace Z := Lib.hid (has_below Z.out hb)
    clear hb
    have R := Lib.hid hR
    clear hR hpl
    clear x0 x1 x2
    clear Z
    rcases vs with _ | ⟨v1, vs1⟩
    · skip
      go_wp2_with fail
      refine (cnext_nil r1 _ _ R.out).mono ?_
      rintro e2 W2 ⟨rfl, hb⟩
      go_wp2
      exact ⟨rfl, PO.mkNo (by simp only [meQ, Option.bind_some, Option.bind_none, nxQ, enQ, List.map_cons, List.map_nil, HQ1.out]) (kp_call B.out hb)⟩
    go_wp2_with fail
    refine (cnext_any r1 v1 vs1 _ _ R.out).mono ?_
    rintro e2 W2 ⟨rfl, hR, hE, hg⟩
    obtain ⟨cs0, hq0⟩ := R.out.block
    replace B := Lib.hid (kp_grown B.out hg (by omega))
    clear hq0 cs0 hg
    replace R := Lib.hid hR
    have X1 := Lib.hid hE
    clear hR hE
    go_wp2_with fail
    refine (coid_any v1 _ X1.out.vv).mono ?_
    rintro e3 W3 hp
    cases hq : odQ v1.el with
    | none =>
      obtain ⟨rfl, hb⟩ := hp.no hq
      go_wp2
      exact ⟨rfl, PO.mkNo (by simp only [meQ, Option.bind_some, Option.bind_none, nxQ, enQ, List.map_cons, List.map_nil, HQ1.out, hq]) (kp_call B.out hb)⟩
    | some q3 =>
      obtain ⟨⟨A1, n1, c1, rfl, ho1⟩, hb⟩ := hp.yes hq
      have HQ3 := Lib.hid hq
      clear hq hp
      replace B := Lib.hid (kp_call B.out hb)
      replace R := Lib.hid (R.out.below hb)
      replace X1 := Lib.hid (X1.out.below hb)
      clear hb
      clear X1
      have O1 := Lib.hid ho1
      have hl1 := ho1.len
      rw [List.length_map, Nat.mul_one] at hl1
      have HL1 := Lib.hid hl1
      have hcap := ho1.cap
      have hn1 : n1 ≤ 9223372036854775807 := by unfold maxLen at hcap; omega
      clear ho1 hl1 hcap
      obtain ⟨d, hd⟩ : ∃ d, decide (q3 = [1, 2, 840, 113549, 1, 1, k]) = d := ⟨_, rfl⟩
      have HD := Lib.hid hd
      clear hd
      go_wp2_with fail
      refine (uequal_any A1 _ n1 7 c1 7 q3 [1, 2, 840, 113549, 1, 1, k] d HD.out _ (O1.out.reads.alloc _) (read_new (by rfl)) HL1.out rfl hn1 (by omega)).mono ?_
      rintro e W4 ⟨rfl, hb⟩
      replace hb := kp_call (kp_alloc (Below.refl _ _) _) hb
      replace B := Lib.hid (kp_call B.out hb)
      replace R := Lib.hid (R.out.below hb)
      clear hb
      clear O1
      cases d with
      | false =>
        have HG := Lib.hid (gd_no (of_decide_eq_false HD.out))
        go_wp2_with fail
        refine (need_no _).mono ?_
        rintro e W5 ⟨rfl, rfl⟩
        go_wp2
        exact ⟨rfl, PO.mkNo (by simp only [meQ, Option.bind_some, Option.bind_none, nxQ, enQ, List.map_cons, List.map_nil, HQ1.out, HQ3.out, HG.out]) B.out⟩
      | true =>
        have HG := Lib.hid (gd_yes (of_decide_eq_true HD.out))
        go_wp2_with fail
        refine (need_yes _).mono ?_
        rintro e W5 ⟨rfl, rfl⟩
        rcases vs1 with _ | ⟨v2, vs2⟩
        · skip
          go_wp2_with fail
          refine (cnext_nil r1 _ _ R.out).mono ?_
          rintro e4 W4 ⟨rfl, hb⟩
          go_wp2
          exact ⟨rfl, PO.mkNo (by simp only [meQ, Option.bind_some, Option.bind_none, nxQ, enQ, List.map_cons, List.map_nil, HQ1.out, HQ3.out, HG.out]) (kp_call B.out hb)⟩
        go_wp2_with fail
        refine (cnext_any r1 v2 vs2 _ _ R.out).mono ?_
        rintro e4 W4 ⟨rfl, hR, hE, hg⟩
        obtain ⟨cs0, hq0⟩ := R.out.block
        replace B := Lib.hid (kp_grown B.out hg (by omega))
        clear hq0 cs0 hg
        replace R := Lib.hid hR
        have X2 := Lib.hid hE
        clear hR hE
        go_upto_region 4 with (fail)
        refine wp_nm fun W9 hW9 => ?_
        obtain ⟨g, hg⟩ : ∃ g, W4.heap.size = g := ⟨_, rfl⟩
        have hb := kp_alloc (Below.refl W4.heap.size W4) (.cells #[.int .u8 (v2.tag.toNat : Int), .slice v2.ba v2.bn v2.bc, .slice v2.ra v2.rn v2.rc] 46)
        have hz := has_new W4 (.cells #[.int .u8 (v2.tag.toNat : Int), .slice v2.ba v2.bn v2.bc, .slice v2.ra v2.rn v2.rc] 46)
        rw [hW9] at hb hz
        rw [hg] at hz
        try rw [hg]
        have Z := Lib.hid hz
        clear hW9 hz hg
        replace B := Lib.hid (kp_call B.out hb)
        replace R := Lib.hid (R.out.below hb)
        replace X2 := Lib.hid (X2.out.below hb)
        clear hb
        obtain ⟨x0, x1, x2⟩ := cells_3 Z.out
        have HT2 := Lib.hid X2.out.vv.tgq
        have hbl2 := Lib.hid X2.out.b.len
        by_cases h5 : v2.tag.toNat = 5 ∧ v2.bn = 0
        rotate_left
        · skip
          have HG5 := Lib.hid (gd_no (p := tg v2.el = 5 ∧ v2.el.2 = []) (fun h9 => h5 ⟨by rw [← HT2.out]; exact h9.1, by rw [← hbl2.out, show v2.body = v2.el.2 from rfl, h9.2]; rfl⟩))
          by_cases h6 : v2.tag.toNat = 5
          · have h7 : ¬ v2.bn = 0 := fun h9 => h5 ⟨h6, h9⟩
            have p1 : ((v2.tag.toNat : Int) == 5) = true := by rw [h6]; rfl
            have p2 : ((v2.bn : Int) == 0) = false := beq_eq_false_iff_ne.2 (by omega)
            clear h6
            go_wp2_with fail
            refine (need_no _).mono ?_
            rintro e W7 ⟨rfl, rfl⟩
            go_wp2
            exact ⟨rfl, PO.mkNo (by simp only [meQ, Option.bind_some, Option.bind_none, nxQ, enQ, List.map_cons, List.map_nil, HQ1.out, HQ3.out, HG.out, HG5.out]) B.out⟩
          · have p1 : ((v2.tag.toNat : Int) == 5) = false := beq_eq_false_iff_ne.2 (by omega)
            go_wp2_with fail
            refine (need_no _).mono ?_
            rintro e W7 ⟨rfl, rfl⟩
            go_wp2
            exact ⟨rfl, PO.mkNo (by simp only [meQ, Option.bind_some, Option.bind_none, nxQ, enQ, List.map_cons, List.map_nil, HQ1.out, HQ3.out, HG.out, HG5.out]) B.out⟩
        have HG5 := Lib.hid (gd_yes (p := tg v2.el = 5 ∧ v2.el.2 = []) ⟨by rw [HT2.out]; exact h5.1, List.eq_nil_of_length_eq_zero (by have h9 := hbl2.out; rw [h5.2] at h9; exact h9)⟩)
        have p1 : ((v2.tag.toNat : Int) == 5) = true := by rw [h5.1]; rfl
        have p2 : ((v2.bn : Int) == 0) = true := by rw [h5.2]; rfl
        clear h5
        go_wp2_with fail
        refine (need_yes _).mono ?_
        rintro e W7 ⟨rfl, rfl⟩
        rcases vs2 with _ | ⟨vx, vxs⟩
        rotate_left
        · skip
          go_wp2_with fail
          refine (cend_no r1 vx vxs _ _ R.out).mono ?_
          rintro e5 W5 ⟨rfl, rfl⟩
          go_wp2
          exact ⟨rfl, PO.mkNo (by simp only [meQ, Option.bind_some, Option.bind_none, nxQ, enQ, List.map_cons, List.map_nil, HQ1.out, HQ3.out, HG.out, HG5.out]) B.out⟩
        go_wp2_with fail
        refine (cend_yes r1 _ _ R.out).mono ?_
        rintro e5 W5 ⟨rfl, rfl⟩
        go_wp2
        go_end0
        exact PO.mk (x := ()) (by simp only [meQ, Option.bind_some, Option.bind_none, nxQ, enQ, List.map_cons, List.map_nil, HQ1.out, HQ3.out, HG.out, HG5.out]) rfl B.out
theorem isSign_any (v : EV) (w : World) (h : ElV w v) : Calls Try.prog 53 #[v.val] w (PO w (meQ v.el 11) fun _ e w' => e = .returned (.tuple #[])) := by
  have E := Lib.hid h
  clear h
  go_enter Try.func53, Try.ntmps53
  go_upto_region 1 with (fail)
  refine wp_nm fun W0 hW0 => ?_
  have B : Hid (Below w.heap.size w W0) := by rw [← hW0]; exact Lib.hid (kp_alloc (Below.refl _ _) _)
  have Z : Hid (W0.heap[w.heap.size]? = some (.cells #[.int .u8 (v.tag.toNat : Int), .slice v.ba v.bn v.bc, .slice v.ra v.rn v.rc] 46)) := by rw [← hW0]; exact Lib.hid (has_new _ _)
  clear hW0
  obtain ⟨x0, x1, x2⟩ := cells_3 Z.out
  go_wp2_with fail
  refine (method_any v 11 11 rfl _ (E.out.below B.out)).mono ?_
  rintro e W2 hp
  cases hq : meQ v.el 11 with
  | none =>
    obtain ⟨rfl, hb⟩ := hp.no hq
    go_wp2
    exact ⟨rfl, PO.mkNo hq (kp_call B.out hb)⟩
  | some q =>
    obtain ⟨rfl, hb⟩ := hp.yes hq
    go_wp2
    go_end0
    exact PO.mk hq rfl (kp_call B.out hb)
theorem isKey_any (v : EV) (w : World) (h : ElV w v) : Calls Try.prog 77 #[v.val] w (PO w (meQ v.el 1) fun _ e w' => e = .returned (.tuple #[])) := by
  have E := Lib.hid h
  clear h
  go_enter Try.func77, Try.ntmps77
  go_upto_region 1 with (fail)
  refine wp_nm fun W0 hW0 => ?_
  have B : Hid (Below w.heap.size w W0) := by rw [← hW0]; exact Lib.hid (kp_alloc (Below.refl _ _) _)
  have Z : Hid (W0.heap[w.heap.size]? = some (.cells #[.int .u8 (v.tag.toNat : Int), .slice v.ba v.bn v.bc, .slice v.ra v.rn v.rc] 46)) := by rw [← hW0]; exact Lib.hid (has_new _ _)
  clear hW0
  obtain ⟨x0, x1, x2⟩ := cells_3 Z.out
  go_wp2_with fail
  refine (method_any v 1 1 rfl _ (E.out.below B.out)).mono ?_
  rintro e W2 hp
  cases hq : meQ v.el 1 with
  | none =>
    obtain ⟨rfl, hb⟩ := hp.no hq
    go_wp2
    exact ⟨rfl, PO.mkNo hq (kp_call B.out hb)⟩
  | some q =>
    obtain ⟨rfl, hb⟩ := hp.yes hq
    go_wp2
    go_end0
    exact PO.mk hq rfl (kp_call B.out hb)
end Go.Proofs.Ytomolfdcdmncoaa
namespace Go.Proofs.Ytomolfdcdmncoaa
open Go.RowKit Go
set_option linter.unusedVariables false
set_option linter.unusedSimpArgs false
set_option maxRecDepth 100000
theorem serial_any (v : EV) (w : World) (h : ElV w v) : Calls Try.prog 63 #[v.val] w (PO w (seQ v.el) fun l e w' => e = .returned (.slice v.ba v.bn v.bc) ∧ l = v.body) := by
  have E := Lib.hid h
  clear h
  go_enter Try.func63, Try.ntmps63
  go_upto_region 1 with (fail)
  refine wp_nm fun W0 hW0 => ?_
  have B : Hid (Below w.heap.size w W0) := by rw [← hW0]; exact Lib.hid (kp_alloc (Below.refl _ _) _)
  have Z : Hid (W0.heap[w.heap.size]? = some (.cells #[.int .u8 (v.tag.toNat : Int), .slice v.ba v.bn v.bc, .slice v.ra v.rn v.rc] 46)) := by rw [← hW0]; exact Lib.hid (has_new _ _)
  clear hW0
  obtain ⟨x0, x1, x2⟩ := cells_3 Z.out
  go_wp2_with fail
  refine (cnumber_any v _ (E.out.below B.out)).mono ?_
  rintro e1 W1 hp
  cases hq : nuQ v.el with
  | none =>
    obtain ⟨rfl, hb⟩ := hp.no hq
    go_wp2
    exact ⟨rfl, PO.mkNo (by simp only [seQ, Option.bind_some, Option.bind_none, nxQ, enQ, List.map_cons, List.map_nil, hq]) (kp_call B.out hb)⟩
  | some q1 =>
    obtain ⟨⟨A1, n1, c1, rfl, ho1⟩, hb⟩ := hp.yes hq
    have HQ1 := Lib.hid hq
    clear hq hp
    replace B := Lib.hid (kp_call B.out hb)
    replace Z := Lib.hid (has_below Z.out hb)
    clear hb
    have hl1 := ho1.len
    clear ho1 x0 x1 x2
    obtain ⟨x0, x1, x2⟩ := cells_3 Z.out
    by_cases hc : 0 < n1 ∧ v.bn ≤ 20
    rotate_left
    · skip
      have HG := Lib.hid (gd_no (p := 0 < q1.length ∧ v.el.2.length ≤ 20) (fun h9 => hc ⟨by omega, by have h8 := E.out.b.1; have h7 := h9.2; rw [show v.el.2 = v.body from rfl, h8] at h7; exact h7⟩))
      by_cases h6 : 0 < n1
      · have h7 : ¬ v.bn ≤ 20 := fun h9 => hc ⟨h6, h9⟩
        have p1 : decide ((0 : Int) < (n1 : Int)) = true := decide_eq_true (by omega)
        have p2 : decide ((v.bn : Int) ≤ 20) = false := decide_eq_false (by omega)
        go_wp2_with fail
        refine (need_no _).mono ?_
        rintro e W7 ⟨rfl, rfl⟩
        go_wp2
        exact ⟨rfl, PO.mkNo (by simp only [seQ, Option.bind_some, Option.bind_none, nxQ, enQ, List.map_cons, List.map_nil, HQ1.out, HG.out]) B.out⟩
      · have p1 : decide ((0 : Int) < (n1 : Int)) = false := decide_eq_false (by omega)
        go_wp2_with fail
        refine (need_no _).mono ?_
        rintro e W7 ⟨rfl, rfl⟩
        go_wp2
        exact ⟨rfl, PO.mkNo (by simp only [seQ, Option.bind_some, Option.bind_none, nxQ, enQ, List.map_cons, List.map_nil, HQ1.out, HG.out]) B.out⟩
    have HG := Lib.hid (gd_yes (p := 0 < q1.length ∧ v.el.2.length ≤ 20) ⟨by omega, by have h8 := E.out.b.1; rw [show v.el.2 = v.body from rfl, h8]; exact hc.2⟩)
    have p1 : decide ((0 : Int) < (n1 : Int)) = true := decide_eq_true (by omega)
    have p2 : decide ((v.bn : Int) ≤ 20) = true := decide_eq_true (by omega)
    obtain ⟨hc1, hc2⟩ := hc
    go_wp2_with fail
    refine (need_yes _).mono ?_
    rintro e W7 ⟨rfl, rfl⟩
    go_wp2
    go_ret
    exact PO.mk (x := v.body) (by simp only [seQ, HQ1.out, HG.out, Option.bind_some]; rfl) ⟨rfl, rfl⟩ B.out
set_option maxHeartbeats 2000000 in
theorem cmoment_any (v : EV) (w : World) (h : ElV w v) : Calls Try.prog 75 #[v.val] w (PO w (moQ v.el) fun u e w' => e = .returned (tmV u)) := by
  have HT := Lib.hid h.tgq
  by_cases h23 : v.tag.toNat = 23
  · have p1 : ((v.tag.toNat : Int) == 23) = true := by rw [h23]; rfl
    have p2 : ((v.tag.toNat : Int) == 24) = false := by rw [h23]; rfl
    replace h23 := Lib.hid h23
    have E := Lib.hid h
    clear h
    go_enter Try.func75, Try.ntmps75
    go_upto_region 1 with (fail)
    refine wp_nm fun W0 hW0 => ?_
    have B : Hid (Below w.heap.size w W0) := by rw [← hW0]; exact Lib.hid (kp_alloc (kp_alloc (Below.refl _ _) _) _)
    have Z : Hid (W0.heap[w.heap.size]? = some (.cells #[.int .u8 (v.tag.toNat : Int), .slice v.ba v.bn v.bc, .slice v.ra v.rn v.rc] 46)) := by rw [← hW0]; exact Lib.hid (has_alloc (has_new _ _) _)
    have Y1 : Hid (W0.heap[w.heap.size + 1]? = some (.cells #[.int .u16 0, .int .u8 0, .int .u8 0, .int .u8 0, .int .u8 0, .int .u8 0] 25)) := by rw [← hW0]; exact Lib.hid (has_new' _ _ _ (by simp))
    clear hW0
    obtain ⟨x0, x1, x2⟩ := cells_3 Z.out
    have HQ0 : Hid (moQ v.el = utcO v.body) := by
      refine Lib.hid ?_
      unfold moQ
      rw [HT.out]
      exact if_pos h23.out
    go_wp2_with fail
    refine (need_yes _).mono ?_
    rintro e W1 ⟨rfl, rfl⟩
    go_wp2_with fail
    refine (utc_any v.ba v.bn v.bc v.body _ (E.out.b.below B.out) (by have := E.out.bl; omega)).mono ?_
    cases hq : utcO v.body with
    | none =>
      rw [show optV none = .tuple #[.agg #[.int .u16 0, .int .u8 0, .int .u8 0, .int .u8 0, .int .u8 0, .int .u8 0], .bool false] from rfl]
      rintro e W2 ⟨rfl, hb⟩
      have HB := Lib.hid (kp_call B.out hb)
      have HQ := Lib.hid (HQ0.out.trans hq)
      clear hq hb
      go_wp2_with fail
      refine (need_no _).mono ?_
      rintro e W3 ⟨rfl, rfl⟩
      go_wp2
      exact ⟨rfl, PO.mkNo HQ.out (kp_alloc HB.out _)⟩
    | some u =>
      obtain ⟨ty, tmo, td, th, tmi, ts⟩ := u
      rw [show optV (some ⟨ty, tmo, td, th, tmi, ts⟩) = .tuple #[.agg #[.int .u16 (ty : Int), .int .u8 (tmo.toNat : Int), .int .u8 (td.toNat : Int), .int .u8 (th.toNat : Int), .int .u8 (tmi.toNat : Int), .int .u8 (ts.toNat : Int)], .bool true] from rfl]
      rintro e W2 ⟨rfl, hb⟩
      have HB := Lib.hid (kp_call B.out hb)
      have HQ := Lib.hid (HQ0.out.trans hq)
      replace Y1 := Lib.hid (has_below Y1.out hb)
      clear hq hb x0 x1 x2 Z
      go_wp2_with fail
      refine (need_yes _).mono ?_
      rintro e W3 ⟨rfl, rfl⟩
      go_upto_region 7 with (fail)
      refine wp_nm fun W4 hW4 => ?_
      have Y : Hid (W4.heap[W2.heap.size]? = some (.cells #[.int .u16 (ty : Int), .int .u8 (tmo.toNat : Int), .int .u8 (td.toNat : Int), .int .u8 (th.toNat : Int), .int .u8 (tmi.toNat : Int), .int .u8 (ts.toNat : Int)] 25) ∧ W4.heap[w.heap.size + 1]? = some (.cells #[.int .u16 0, .int .u8 0, .int .u8 0, .int .u8 0, .int .u8 0, .int .u8 0] 25) ∧ Below W2.heap.size W2 W4) := by
        rw [← hW4]; exact Lib.hid ⟨has_new _ _, has_alloc Y1.out _, kp_alloc (Below.refl _ _) _⟩
      have hlt := block_lt Y1.out
      clear hW4 Y1
      have hne : w.heap.size + 1 ≠ W2.heap.size := by omega
      obtain ⟨z0, z1, z2, z3, z4, z5⟩ := cells_6 Y.out.1
      obtain ⟨u0, u1, u2, u3, u4, u5⟩ := cells_6 Y.out.2.1
      obtain ⟨f0, f1, f2, f3, f4, f5⟩ := free_6 Y.out.2.1
      go_wp2
      refine bodyPost_ret (results_c Try.results75 _ (LV.agg (set_6 Y.out.2.1) Try.underlying25 rfl (by kernel_rfl))) rfl ?_
      exact PO.mk HQ.out rfl (below_6 (kp_call HB.out Y.out.2.2) (by omega))
  by_cases h24 : v.tag.toNat = 24
  · have p1 : ((v.tag.toNat : Int) == 23) = false := by rw [h24]; rfl
    have p2 : ((v.tag.toNat : Int) == 24) = true := by rw [h24]; rfl
    replace h24 := Lib.hid h24
    have E := Lib.hid h
    clear h
    go_enter Try.func75, Try.ntmps75
    go_upto_region 1 with (fail)
    refine wp_nm fun W0 hW0 => ?_
    have B : Hid (Below w.heap.size w W0) := by rw [← hW0]; exact Lib.hid (kp_alloc (kp_alloc (Below.refl _ _) _) _)
    have Z : Hid (W0.heap[w.heap.size]? = some (.cells #[.int .u8 (v.tag.toNat : Int), .slice v.ba v.bn v.bc, .slice v.ra v.rn v.rc] 46)) := by rw [← hW0]; exact Lib.hid (has_alloc (has_new _ _) _)
    have Y1 : Hid (W0.heap[w.heap.size + 1]? = some (.cells #[.int .u16 0, .int .u8 0, .int .u8 0, .int .u8 0, .int .u8 0, .int .u8 0] 25)) := by rw [← hW0]; exact Lib.hid (has_new' _ _ _ (by simp))
    clear hW0
    obtain ⟨x0, x1, x2⟩ := cells_3 Z.out
    have HQ0 : Hid (moQ v.el = genO v.body) := by
      refine Lib.hid ?_
      unfold moQ
      rw [HT.out]
      exact (if_neg h23).trans (if_pos h24.out)
    go_wp2_with fail
    refine (need_yes _).mono ?_
    rintro e W1 ⟨rfl, rfl⟩
    go_wp2_with fail
    refine (gen_any v.ba v.bn v.bc v.body _ (E.out.b.below B.out) (by have := E.out.bl; omega)).mono ?_
    cases hq : genO v.body with
    | none =>
      rw [show optV none = .tuple #[.agg #[.int .u16 0, .int .u8 0, .int .u8 0, .int .u8 0, .int .u8 0, .int .u8 0], .bool false] from rfl]
      rintro e W2 ⟨rfl, hb⟩
      have HB := Lib.hid (kp_call B.out hb)
      have HQ := Lib.hid (HQ0.out.trans hq)
      clear hq hb
      go_wp2_with fail
      refine (need_no _).mono ?_
      rintro e W3 ⟨rfl, rfl⟩
      go_wp2
      exact ⟨rfl, PO.mkNo HQ.out (kp_alloc HB.out _)⟩
    | some u =>
      obtain ⟨ty, tmo, td, th, tmi, ts⟩ := u
      rw [show optV (some ⟨ty, tmo, td, th, tmi, ts⟩) = .tuple #[.agg #[.int .u16 (ty : Int), .int .u8 (tmo.toNat : Int), .int .u8 (td.toNat : Int), .int .u8 (th.toNat : Int), .int .u8 (tmi.toNat : Int), .int .u8 (ts.toNat : Int)], .bool true] from rfl]
      rintro e W2 ⟨rfl, hb⟩
      have HB := Lib.hid (kp_call B.out hb)
      have HQ := Lib.hid (HQ0.out.trans hq)
      replace Y1 := Lib.hid (has_below Y1.out hb)
      clear hq hb x0 x1 x2 Z
      go_wp2_with fail
      refine (need_yes _).mono ?_
      rintro e W3 ⟨rfl, rfl⟩
      go_upto_region 7 with (fail)
      refine wp_nm fun W4 hW4 => ?_
      have Y : Hid (W4.heap[W2.heap.size]? = some (.cells #[.int .u16 (ty : Int), .int .u8 (tmo.toNat : Int), .int .u8 (td.toNat : Int), .int .u8 (th.toNat : Int), .int .u8 (tmi.toNat : Int), .int .u8 (ts.toNat : Int)] 25) ∧ W4.heap[w.heap.size + 1]? = some (.cells #[.int .u16 0, .int .u8 0, .int .u8 0, .int .u8 0, .int .u8 0, .int .u8 0] 25) ∧ Below W2.heap.size W2 W4) := by
        rw [← hW4]; exact Lib.hid ⟨has_new _ _, has_alloc Y1.out _, kp_alloc (Below.refl _ _) _⟩
      have hlt := block_lt Y1.out
      clear hW4 Y1
      have hne : w.heap.size + 1 ≠ W2.heap.size := by omega
      obtain ⟨z0, z1, z2, z3, z4, z5⟩ := cells_6 Y.out.1
      obtain ⟨u0, u1, u2, u3, u4, u5⟩ := cells_6 Y.out.2.1
      obtain ⟨f0, f1, f2, f3, f4, f5⟩ := free_6 Y.out.2.1
      go_wp2
      refine bodyPost_ret (results_c Try.results75 _ (LV.agg (set_6 Y.out.2.1) Try.underlying25 rfl (by kernel_rfl))) rfl ?_
      exact PO.mk HQ.out rfl (below_6 (kp_call HB.out Y.out.2.2) (by omega))
  have p1 : ((v.tag.toNat : Int) == 23) = false := beq_eq_false_iff_ne.2 (by omega)
  have p2 : ((v.tag.toNat : Int) == 24) = false := beq_eq_false_iff_ne.2 (by omega)
  have HQ0 : Hid (moQ v.el = none) := by
    refine Lib.hid ?_
    unfold moQ
    rw [HT.out, if_neg h23, if_neg h24]
  have E := Lib.hid h
  clear h
  go_enter Try.func75, Try.ntmps75
  go_upto_region 1 with (fail)
  refine wp_nm fun W0 hW0 => ?_
  have B : Hid (Below w.heap.size w W0) := by rw [← hW0]; exact Lib.hid (kp_alloc (kp_alloc (Below.refl _ _) _) _)
  have Z : Hid (W0.heap[w.heap.size]? = some (.cells #[.int .u8 (v.tag.toNat : Int), .slice v.ba v.bn v.bc, .slice v.ra v.rn v.rc] 46)) := by rw [← hW0]; exact Lib.hid (has_alloc (has_new _ _) _)
  have Y1 : Hid (W0.heap[w.heap.size + 1]? = some (.cells #[.int .u16 0, .int .u8 0, .int .u8 0, .int .u8 0, .int .u8 0, .int .u8 0] 25)) := by rw [← hW0]; exact Lib.hid (has_new' _ _ _ (by simp))
  clear hW0
  obtain ⟨x0, x1, x2⟩ := cells_3 Z.out
  go_wp2_with fail
  refine (need_no _).mono ?_
  rintro e W1 ⟨rfl, rfl⟩
  go_wp2
  exact ⟨rfl, PO.mkNo HQ0.out B.out⟩
theorem nextIs_nil (p : Nat) (t : Int) (W : World) (base : Nat) (h : RowP W base p []) : Calls Try.prog 79 #[.pointer (some ⟨p, 0, none⟩), .int .u8 t] W fun e w' => e = .returned (.bool false) ∧ w' = W := by
  have M := Lib.hid (cmore_any p [] _ base h)
  go_enter Try.func79, Try.ntmps79
  go_wp2_with fail
  refine M.out.mono ?_
  rintro e w' ⟨rfl, rfl⟩
  go_wp2
  go_ret
  exact ⟨rfl, rfl⟩
theorem nextIs_any (p : Nat) (v : EV) (vs : List EV) (t : Int) (d : Bool) (hd : ((v.tag.toNat : Int) == t) = d) (W : World) (base : Nat) (h : RowP W base p (v :: vs)) : Calls Try.prog 79 #[.pointer (some ⟨p, 0, none⟩), .int .u8 t] W fun e w' => e = .returned (.bool d) ∧ w' = W := by
  have M := Lib.hid (cmore_any p (v :: vs) _ base h)
  rw [show decide (0 < (v :: vs).length) = true by simp] at M
  obtain ⟨A, n, c, A0, n0, c0, xs, h⟩ := h
  have hfl : (v :: vs).flatMap EV.cells = v.cells ++ vs.flatMap EV.cells := by rw [List.flatMap_cons]
  obtain ⟨b, off, rfl, hlt, hc⟩ := h.rd (by rw [hfl]; simp [EV.cells])
  rw [hfl] at hc
  have y0 : W.cell? ⟨b, off, none⟩ = some (.int .u8 (v.tag.toNat : Int)) := hc 0 _ rfl
  have x0 := cells_1 h.at_
  have hl := h.len
  rw [List.length_cons] at hl
  have hn0 : (0 : Int) < (n : Int) := by omega
  have hn1 : 0 < n := by omega
  clear hc hfl h hl
  go_enter Try.func79, Try.ntmps79
  go_wp2_with fail
  refine M.out.mono ?_
  rintro e w' ⟨rfl, rfl⟩
  go_wp2
  go_ret
  exact ⟨rfl, rfl⟩
end Go.Proofs.Ytomolfdcdmncoaa

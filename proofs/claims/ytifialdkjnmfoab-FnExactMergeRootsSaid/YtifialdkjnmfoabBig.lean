/- Signatures and Bigraphs in plain Lean: when they are valid. -/
import Derived.Test.YtifialdkjnmfoabKit
namespace Go.Proofs.Ytifialdkjnmfoab.bg
open Go.RowKit

structure Ctl where
  name : ByteArray
  ports : Int
  kind : Int
structure Nd where
  control : Int
  parent : Int
  links : List Int
structure Wr where
  name : ByteArray
  link : Int
structure Big where
  roots : Int
  nodes : List Nd
  sites : List Int
  edges : Int
  outer : List ByteArray
  inner : List Wr

/-- a number within bounds -/
def inb (x lo hi : Int) : Bool := decide (lo ≤ x ∧ x ≤ hi)
theorem inb_true {x lo hi : Int} (h : inb x lo hi = true) : lo ≤ x ∧ x ≤ hi := of_decide_eq_true h
theorem inb_false {x lo hi : Int} (h : inb x lo hi = false) : ¬ (lo ≤ x ∧ x ≤ hi) := of_decide_eq_false h
theorem inb_mk {x lo hi : Int} (h : lo ≤ x ∧ x ≤ hi) : inb x lo hi = true := decide_eq_true h
theorem inb_not {x lo hi : Int} (h : ¬ (lo ≤ x ∧ x ≤ hi)) : inb x lo hi = false := decide_eq_false h

theorem str_eq {a b : ByteArray} (h : (a.toList == b.toList) = true) : a = b := by
  have e : a.toList = b.toList := eq_of_beq h
  rw [ByteArray.toList_eq, ByteArray.toList_eq] at e
  exact Go.WideShapes.bytes_inj e
theorem str_ne {a b : ByteArray} (h : (a.toList == b.toList) = false) : a ≠ b := fun e => by
  subst e
  simp at h

/-- a byte of a name -/
def letB (c : UInt8) : Bool := decide (97 ≤ (c.toNat : Int) ∧ (c.toNat : Int) ≤ 122)
def nameB (s : ByteArray) : Bool := s.data.toList.all letB && inb s.size 1 4
def ctlB (c : Ctl) : Bool := nameB c.name && inb c.ports 0 3 && inb c.kind 0 2

def SigP (cs : List Ctl) : Prop :=
  (∀ (k : Nat) c, cs[k]? = some c → ctlB c = true) ∧ (∀ (i j : Nat) a b, j < i → cs[i]? = some a → cs[j]? = some b → b.name ≠ a.name) ∧ inb cs.length 1 6 = true
open Classical in
noncomputable def sigB (cs : List Ctl) : Bool := decide (SigP cs)
open Classical in
theorem sig_true {cs : List Ctl} (h : SigP cs) : sigB cs = true := by unfold sigB; exact decide_eq_true h
open Classical in
theorem sig_false {cs : List Ctl} (h : ¬ SigP cs) : sigB cs = false := by unfold sigB; exact decide_eq_false h
open Classical in
theorem sig_of {cs : List Ctl} (h : sigB cs = true) : SigP cs := by unfold sigB at h; exact of_decide_eq_true h

/-- one string before another -/
def lessB (a b : ByteArray) : Bool := Op.bytesLess a.toList b.toList
/-- names, strictly ascending -/
def NamesP (ss : List ByteArray) : Prop :=
  (∀ (k : Nat) s, ss[k]? = some s → nameB s = true) ∧ (∀ (k : Nat) a b, ss[k]? = some a → ss[k + 1]? = some b → lessB a b = true)

/-- what may be the parent of a place behind the first nodes -/
def underB (cs : List Ctl) (b : Big) (parent below : Int) : Bool :=
  if parent < 0 then inb (-1 - parent) 0 (b.roots - 1)
  else decide (parent < below) && match b.nodes[parent.toNat]? with
    | some nd => match cs[nd.control.toNat]? with
      | some c => c.kind != 2
      | none => false
    | none => false
def linkB (b : Big) (l : Int) : Bool := inb l 0 (b.edges + b.outer.length - 1)
/-- the k-th node may have this Control and this parent -/
def seatB (cs : List Ctl) (b : Big) (k : Nat) (nd : Nd) : Bool := inb nd.control 0 (cs.length - 1) && underB cs b nd.parent k
def portsB (cs : List Ctl) (nd : Nd) : Bool := match cs[nd.control.toNat]? with
  | some c => (nd.links.length : Int) == c.ports
  | none => false
def sizesB (b : Big) : Bool := inb b.roots 0 4 && inb b.edges 0 8 && decide (b.nodes.length ≤ 8) && decide (b.sites.length ≤ 4) && decide (b.outer.length ≤ 16) && decide (b.inner.length ≤ 16)

def BigP (cs : List Ctl) (b : Big) : Prop :=
  SigP cs ∧ sizesB b = true ∧ NamesP b.outer ∧ NamesP (b.inner.map (·.name)) ∧
  (∀ (k : Nat) nd, b.nodes[k]? = some nd → seatB cs b k nd = true ∧ portsB cs nd = true ∧ ∀ (i : Nat) l, nd.links[i]? = some l → linkB b l = true) ∧
  (∀ (i : Nat) p, b.sites[i]? = some p → underB cs b p b.nodes.length = true) ∧
  (∀ (i : Nat) x, b.inner[i]? = some x → linkB b x.link = true)
open Classical in
noncomputable def bigB (cs : List Ctl) (b : Big) : Bool := decide (BigP cs b)
open Classical in
theorem big_true {cs : List Ctl} {b : Big} (h : BigP cs b) : bigB cs b = true := by unfold bigB; exact decide_eq_true h
open Classical in
theorem big_false {cs : List Ctl} {b : Big} (h : ¬ BigP cs b) : bigB cs b = false := by unfold bigB; exact decide_eq_false h
open Classical in
theorem big_of {cs : List Ctl} {b : Big} (h : bigB cs b = true) : BigP cs b := by unfold bigB at h; exact of_decide_eq_true h

/-! ### where they lie in memory -/
def CtlsAt (w : World) (B : Nat) (A : Option Addr) (n : Nat) (cs : List Ctl) : Prop :=
  cs.length = n ∧ (0 < n → ∃ b off, A = some ⟨b, off, none⟩ ∧ b < B ∧ ∀ (k : Nat) c, cs[k]? = some c →
    w.cell? ⟨b, off + k * 3, none⟩ = some (.string c.name) ∧ w.cell? ⟨b, off + k * 3 + 1, none⟩ = some (.int .i64 c.ports) ∧ w.cell? ⟨b, off + k * 3 + 2, none⟩ = some (.int .i64 c.kind))
def WrsAt (w : World) (B : Nat) (A : Option Addr) (n : Nat) (ws : List Wr) : Prop :=
  ws.length = n ∧ (0 < n → ∃ b off, A = some ⟨b, off, none⟩ ∧ b < B ∧ ∀ (k : Nat) x, ws[k]? = some x →
    w.cell? ⟨b, off + k * 2, none⟩ = some (.string x.name) ∧ w.cell? ⟨b, off + k * 2 + 1, none⟩ = some (.int .i64 x.link))
open kit in
def IntsAt (w : World) (B : Nat) (A : Option Addr) (n : Nat) (zs : List Int) : Prop := SR w B A n (zs.map (Value.int .i64))
def NdsAt (w : World) (B : Nat) (A : Option Addr) (n : Nat) (ns : List Nd) : Prop :=
  ns.length = n ∧ (0 < n → ∃ b off, A = some ⟨b, off, none⟩ ∧ b < B ∧ ∀ (k : Nat) x, ns[k]? = some x →
    w.cell? ⟨b, off + k * 3, none⟩ = some (.int .i64 x.control) ∧ w.cell? ⟨b, off + k * 3 + 1, none⟩ = some (.int .i64 x.parent) ∧
    ∃ A' n' c', w.cell? ⟨b, off + k * 3 + 2, none⟩ = some (.slice A' n' c') ∧ IntsAt w B A' n' x.links)

section
variable {w w' : World} {B B' n : Nat} {A : Option Addr}
theorem CtlsAt.get {cs : List Ctl} {k : Nat} (h : CtlsAt w B A n cs) (hk : k < n) : ∃ b off c, A = some ⟨b, off, none⟩ ∧ b < B ∧ cs[k]? = some c ∧
    w.cell? ⟨b, off + k * 3, none⟩ = some (.string c.name) ∧ w.cell? ⟨b, off + k * 3 + 1, none⟩ = some (.int .i64 c.ports) ∧ w.cell? ⟨b, off + k * 3 + 2, none⟩ = some (.int .i64 c.kind) := by
  obtain ⟨b, off, e, hb, hc⟩ := h.2 (by omega)
  have hx : cs[k]? = some (cs[k]'(by have := h.1; omega)) := List.getElem?_eq_getElem _
  obtain ⟨h1, h2, h3⟩ := hc k _ hx
  exact ⟨b, off, _, e, hb, hx, h1, h2, h3⟩
theorem CtlsAt.move {cs : List Ctl} (h : CtlsAt w B A n cs) (hk : ∀ p : Addr, p.block < B → w'.cell? p = w.cell? p) : CtlsAt w' B A n cs :=
  ⟨h.1, fun hn => by
    obtain ⟨b, off, e, hb, hc⟩ := h.2 hn
    refine ⟨b, off, e, hb, fun k c hu => ?_⟩
    obtain ⟨h1, h2, h3⟩ := hc k c hu
    exact ⟨(hk _ hb).trans h1, (hk _ hb).trans h2, (hk _ hb).trans h3⟩⟩
theorem CtlsAt.below {cs : List Ctl} (h : CtlsAt w B A n cs) (hb : Below B w w') : CtlsAt w' B A n cs := h.move fun _ hp => hb.cell hp
theorem CtlsAt.wide {cs : List Ctl} (h : CtlsAt w B A n cs) (hB : B ≤ B') : CtlsAt w B' A n cs :=
  ⟨h.1, fun hn => by
    obtain ⟨b, off, e, hb, hc⟩ := h.2 hn
    exact ⟨b, off, e, by omega, hc⟩⟩
theorem WrsAt.get {cs : List Wr} {k : Nat} (h : WrsAt w B A n cs) (hk : k < n) : ∃ b off c, A = some ⟨b, off, none⟩ ∧ b < B ∧ cs[k]? = some c ∧
    w.cell? ⟨b, off + k * 2, none⟩ = some (.string c.name) ∧ w.cell? ⟨b, off + k * 2 + 1, none⟩ = some (.int .i64 c.link) := by
  obtain ⟨b, off, e, hb, hc⟩ := h.2 (by omega)
  have hx : cs[k]? = some (cs[k]'(by have := h.1; omega)) := List.getElem?_eq_getElem _
  obtain ⟨h1, h2⟩ := hc k _ hx
  exact ⟨b, off, _, e, hb, hx, h1, h2⟩
theorem WrsAt.move {cs : List Wr} (h : WrsAt w B A n cs) (hk : ∀ p : Addr, p.block < B → w'.cell? p = w.cell? p) : WrsAt w' B A n cs :=
  ⟨h.1, fun hn => by
    obtain ⟨b, off, e, hb, hc⟩ := h.2 hn
    refine ⟨b, off, e, hb, fun k c hu => ?_⟩
    obtain ⟨h1, h2⟩ := hc k c hu
    exact ⟨(hk _ hb).trans h1, (hk _ hb).trans h2⟩⟩
theorem WrsAt.below {cs : List Wr} (h : WrsAt w B A n cs) (hb : Below B w w') : WrsAt w' B A n cs := h.move fun _ hp => hb.cell hp
theorem WrsAt.wide {cs : List Wr} (h : WrsAt w B A n cs) (hB : B ≤ B') : WrsAt w B' A n cs :=
  ⟨h.1, fun hn => by
    obtain ⟨b, off, e, hb, hc⟩ := h.2 hn
    exact ⟨b, off, e, by omega, hc⟩⟩
theorem IntsAt.get {zs : List Int} {k : Nat} (h : IntsAt w B A n zs) (hk : k < n) : ∃ b off z, A = some ⟨b, off, none⟩ ∧ b < B ∧ zs[k]? = some z ∧ w.cell? ⟨b, off + k, none⟩ = some (.int .i64 z) := by
  obtain ⟨b, off, u, e, hb, hx, hc⟩ := kit.SR.get h hk
  rw [List.getElem?_map] at hx
  obtain ⟨s, hs, rfl⟩ := Option.map_eq_some_iff.1 hx
  exact ⟨b, off, s, e, hb, hs, hc⟩
theorem IntsAt.len {zs : List Int} (h : IntsAt w B A n zs) : zs.length = n := by simpa using kit.SR.len h
theorem IntsAt.below {zs : List Int} (h : IntsAt w B A n zs) (hb : Below B w w') : IntsAt w' B A n zs := kit.SR.below h hb
theorem IntsAt.move {zs : List Int} (h : IntsAt w B A n zs) (hk : ∀ p : Addr, p.block < B → w'.cell? p = w.cell? p) : IntsAt w' B A n zs := kit.SR.move h hk
theorem IntsAt.wide {zs : List Int} (h : IntsAt w B A n zs) (hB : B ≤ B') : IntsAt w B' A n zs := kit.SR.wide h hB
theorem NdsAt.get {cs : List Nd} {k : Nat} (h : NdsAt w B A n cs) (hk : k < n) : ∃ b off c, A = some ⟨b, off, none⟩ ∧ b < B ∧ cs[k]? = some c ∧
    w.cell? ⟨b, off + k * 3, none⟩ = some (.int .i64 c.control) ∧ w.cell? ⟨b, off + k * 3 + 1, none⟩ = some (.int .i64 c.parent) ∧
    ∃ A' n' c', w.cell? ⟨b, off + k * 3 + 2, none⟩ = some (.slice A' n' c') ∧ IntsAt w B A' n' c.links := by
  obtain ⟨b, off, e, hb, hc⟩ := h.2 (by omega)
  have hx : cs[k]? = some (cs[k]'(by have := h.1; omega)) := List.getElem?_eq_getElem _
  obtain ⟨h1, h2, h3⟩ := hc k _ hx
  exact ⟨b, off, _, e, hb, hx, h1, h2, h3⟩
theorem NdsAt.move {cs : List Nd} (h : NdsAt w B A n cs) (hk : ∀ p : Addr, p.block < B → w'.cell? p = w.cell? p) : NdsAt w' B A n cs :=
  ⟨h.1, fun hn => by
    obtain ⟨b, off, e, hb, hc⟩ := h.2 hn
    refine ⟨b, off, e, hb, fun k c hu => ?_⟩
    obtain ⟨h1, h2, A', n', c', h3, h4⟩ := hc k c hu
    exact ⟨(hk _ hb).trans h1, (hk _ hb).trans h2, A', n', c', (hk _ hb).trans h3, h4.move hk⟩⟩
theorem NdsAt.below {cs : List Nd} (h : NdsAt w B A n cs) (hb : Below B w w') : NdsAt w' B A n cs := h.move fun _ hp => hb.cell hp
theorem NdsAt.wide {cs : List Nd} (h : NdsAt w B A n cs) (hB : B ≤ B') : NdsAt w B' A n cs :=
  ⟨h.1, fun hn => by
    obtain ⟨b, off, e, hb, hc⟩ := h.2 hn
    refine ⟨b, off, e, by omega, fun k c hu => ?_⟩
    obtain ⟨h1, h2, A', n', c', h3, h4⟩ := hc k c hu
    exact ⟨h1, h2, A', n', c', h3, h4.wide hB⟩⟩
end

/-- a Bigraph as a value: what its slices hold lies below block B -/
def BigAt (w : World) (B : Nat) (v : Value) (b : Big) : Prop :=
  ∃ A1 n1 c1 A2 n2 c2 A4 n4 c4 A5 n5 c5, v = .agg #[.int .i64 b.roots, .slice A1 n1 c1, .slice A2 n2 c2, .int .i64 b.edges, .slice A4 n4 c4, .slice A5 n5 c5] ∧
    NdsAt w B A1 n1 b.nodes ∧ IntsAt w B A2 n2 b.sites ∧ kit.SR w B A4 n4 (b.outer.map Value.string) ∧ WrsAt w B A5 n5 b.inner
section
variable {w w' : World} {B B' : Nat} {v : Value} {b : Big}
theorem BigAt.move (h : BigAt w B v b) (hk : ∀ p : Addr, p.block < B → w'.cell? p = w.cell? p) : BigAt w' B v b := by
  obtain ⟨A1, n1, c1, A2, n2, c2, A4, n4, c4, A5, n5, c5, e, h1, h2, h4, h5⟩ := h
  exact ⟨A1, n1, c1, A2, n2, c2, A4, n4, c4, A5, n5, c5, e, h1.move hk, h2.move hk, h4.move hk, h5.move hk⟩
theorem BigAt.below (h : BigAt w B v b) (hb : Below B w w') : BigAt w' B v b := h.move fun _ hp => hb.cell hp
theorem BigAt.wide (h : BigAt w B v b) (hB : B ≤ B') : BigAt w B' v b := by
  obtain ⟨A1, n1, c1, A2, n2, c2, A4, n4, c4, A5, n5, c5, e, h1, h2, h4, h5⟩ := h
  exact ⟨A1, n1, c1, A2, n2, c2, A4, n4, c4, A5, n5, c5, e, h1.wide hB, h2.wide hB, h4.wide hB, h5.wide hB⟩
end
end Go.Proofs.Ytifialdkjnmfoab.bg

/- Kit Strs Big MapB Open Only Mk Es Hc Hi Hw Hn Hb in one. -/
import Derived.Test.YtlpgldejmdiceabDoorRows
import Derived.WalkKit
import Derived.WalkSpells
import Derived.WalkLawsBesides
import Derived.ProofKit
import Derived.OpenShut
import Derived.ShutString
import Derived.Deep.OwnRows
import Derived.Deep.Draws
import Derived.SliceStrings
import Derived.ChangeOld
import Derived.Below
import Derived.Lib.Hide
import Derived.Lib.ItoaNum
import Derived.Maps.OwnOps
import Derived.Maps.OwnIn
import Derived.Maps.Views
import Derived.Deep.Slices
import Derived.Deep.Fields
import Derived.ChangeSame
import Derived.Lib.SmallJoins
import Derived.Deep.RegionHeld3
import Derived.Deep.RegionWith
import Derived.Deep.QuietTactic
import Derived.BigQuiet
import Derived.Outline
import Derived.StillTailTactics
set_option linter.unusedSimpArgs false
section
namespace Go.Proofs.YtlpgldejmdiceabDoor.kit
open Go.ChangeShapes Go.WideShapes Go.ChangeAt Go.RowKit

/-- In world w the slice (A, n) reads as xs, below block B; one cell an element; nil where n is 0 is let in. -/
def SR (w : World) (B : Nat) (A : Option Addr) (n : Nat) (xs : List Value) : Prop :=
  xs.length = n ∧ (0 < n → ∃ b off, A = some ⟨b, off, none⟩ ∧ b < B ∧ ∀ k u, xs[k]? = some u → w.cell? ⟨b, off + k, none⟩ = some u)

section
variable {w w' : World} {B B' n : Nat} {A : Option Addr} {xs : List Value}
theorem SR.len (h : SR w B A n xs) : xs.length = n := h.1
theorem SR.nil_ : SR w B A 0 [] := ⟨rfl, fun h => absurd h (by omega)⟩
theorem SR.get {k : Nat} (h : SR w B A n xs) (hk : k < n) : ∃ b off u, A = some ⟨b, off, none⟩ ∧ b < B ∧ xs[k]? = some u ∧ w.cell? ⟨b, off + k, none⟩ = some u := by
  obtain ⟨b, off, e, hb, hc⟩ := h.2 (by omega)
  have hx : xs[k]? = some (xs[k]'(by have := h.1; omega)) := List.getElem?_eq_getElem _
  exact ⟨b, off, _, e, hb, hx, hc k _ hx⟩
theorem SR.str {k : Nat} {ss : List ByteArray} (h : SR w B A n (ss.map Value.string)) (hk : k < n) : ∃ b off s, A = some ⟨b, off, none⟩ ∧ b < B ∧ ss[k]? = some s ∧ w.cell? ⟨b, off + k, none⟩ = some (.string s) := by
  obtain ⟨b, off, u, e, hb, hx, hc⟩ := h.get hk
  rw [List.getElem?_map] at hx
  obtain ⟨s, hs, rfl⟩ := Option.map_eq_some_iff.1 hx
  exact ⟨b, off, s, e, hb, hs, hc⟩
theorem SR.strlen {ss : List ByteArray} (h : SR w B A n (ss.map Value.string)) : ss.length = n := by simpa using h.1
theorem SR.move (h : SR w B A n xs) (hk : ∀ p : Addr, p.block < B → w'.cell? p = w.cell? p) : SR w' B A n xs :=
  ⟨h.1, fun hn => by
    obtain ⟨b, off, e, hb, hc⟩ := h.2 hn
    exact ⟨b, off, e, hb, fun k u hu => (hk _ hb).trans (hc k u hu)⟩⟩
theorem SR.wide (h : SR w B A n xs) (hB : B ≤ B') : SR w B' A n xs :=
  ⟨h.1, fun hn => by
    obtain ⟨b, off, e, hb, hc⟩ := h.2 hn
    exact ⟨b, off, e, by omega, hc⟩⟩
theorem SR.below (h : SR w B A n xs) (hb : Below B w w') : SR w' B A n xs := h.move fun _ hp => hb.cell hp
theorem SR.of_row2 {b m : Nat} {t : TypeId} {f : Nat → Value} (h : w.rowIs b t m f) (hm : n ≤ m) (hb : b < B) (hx : ∀ k u, xs[k]? = some u → k < n ∧ f k = u) (hl : xs.length = n) : SR w B (some ⟨b, 0, none⟩) n xs :=
  ⟨hl, fun _ => ⟨b, 0, rfl, hb, fun k u hu => by
    obtain ⟨hk, e⟩ := hx k u hu
    rw [Nat.zero_add, h.cell (show k < m by omega), e]⟩⟩
theorem SR.of_row {b : Nat} {t : TypeId} {f : Nat → Value} (h : w.rowIs b t n f) (hb : b < B) (hx : ∀ k u, xs[k]? = some u → k < n ∧ f k = u) (hl : xs.length = n) : SR w B (some ⟨b, 0, none⟩) n xs :=
  ⟨hl, fun _ => ⟨b, 0, rfl, hb, fun k u hu => by
    obtain ⟨hk, e⟩ := hx k u hu
    rw [Nat.zero_add, h.cell hk, e]⟩⟩
end

theorem take_snoc {α : Type} {ss : List α} {k : Nat} {s : α} (h : ss[k]? = some s) : ss.take (k + 1) = ss.take k ++ [s] := by
  rw [List.take_add_one, h]; rfl
theorem dec_small {n : Nat} (h : n < 10) : Lib.decDigits n = [UInt8.ofNat (48 + n)] := by
  rw [Lib.decDigits, dif_pos h]
theorem dec_big {n : Nat} (h : ¬ n < 10) : Lib.decDigits n = Lib.decDigits (n / 10) ++ [UInt8.ofNat (48 + n % 10)] := by
  rw [Lib.decDigits, dif_neg h]
theorem dec_len (N : Nat) : ∀ n : Nat, n ≤ N → (Lib.decDigits n).length ≤ n + 1 := by
  induction N with
  | zero => intro n h; rw [dec_small (by omega)]; simp
  | succ N ih =>
    intro n h
    by_cases h10 : n < 10
    · rw [dec_small h10]; simp
    · rw [dec_big h10, List.length_append, List.length_singleton]
      have := ih (n / 10) (by omega)
      omega
theorem below_drewN {B : Nat} {a w : World} (h : Below B a w) (n : Nat) : Below B a (w.drewN n) := ⟨h.os, h.tape, h.output, h.size, h.block⟩

/-- w' is w behind some draws -/
def Dr (w w' : World) : Prop := ∃ m, w' = w.drewN m
theorem Dr.refl (w : World) : Dr w w := ⟨0, rfl⟩
theorem Dr.more {w w' : World} (h : Dr w w') (n : Nat) : Dr w (w'.drewN n) := by
  obtain ⟨m, rfl⟩ := h
  exact ⟨m + n, by rw [World.drewN_drewN]⟩
theorem Dr.cell {w w' : World} (h : Dr w w') (a : Addr) : w'.cell? a = w.cell? a := by
  obtain ⟨m, rfl⟩ := h
  rfl
theorem Dr.size {w w' : World} (h : Dr w w') : w'.heap.size = w.heap.size := by
  obtain ⟨m, rfl⟩ := h
  rfl
theorem Dr.trans {a b c : World} (h : Dr a b) (k : Dr b c) : Dr a c := by
  obtain ⟨m, rfl⟩ := k
  exact h.more m
theorem Dr.below {w w' : World} (h : Dr w w') (B : Nat) : Below B w w' := by
  obtain ⟨m, rfl⟩ := h
  exact below_drewN (Below.refl _ _) m

section
variable {H : Type} {enc : TypeId × Value → H} {P : Program}
/-- an argument of strings, as the walk wants it -/
theorem sr_strings {W : World} {t e : TypeId} {a0 : Option Addr} {n c : Nat} {d : DataW H} {p : List MemPlace} (ht : P.underlying t = some (.slice e)) (he : P.underlying e = some .string) (hc : P.cellsOf e = 1)
    (h : DataW.Trod enc P W 0 (fun _ => true) true t (.slice a0 n c) d p) (hlt : ∀ x ∈ p, x.block < W.heap.size) : ∃ ss : List ByteArray, SR W W.heap.size a0 n (ss.map Value.string) ∧ n ≤ maxLen ∧ ∀ s ∈ ss, s.size ≤ maxLen := by
  obtain ⟨fuel, hf⟩ := h
  rcases open_strings ht he hc hf with ⟨hcs, _⟩ | ⟨a, l, c', ss, hcs, _, hl, hm, hz, hx, hcell, hws⟩
  · simp [Value.cells] at hcs
    obtain ⟨rfl, rfl, rfl⟩ := hcs
    exact ⟨[], SR.nil_, by simp, by simp⟩
  · simp [Value.cells] at hcs
    obtain ⟨rfl, rfl, rfl⟩ := hcs
    simp only [if_true] at hz
    have hp : p = MemPlace.row a ss.length := (Prod.mk.inj hx).2
    refine ⟨ss.take n, ⟨by simp; omega, fun hn => ?_⟩, by omega, fun s hs => hws s (List.mem_of_mem_take hs)⟩
    obtain ⟨b, off, spot⟩ := a
    have hspot : spot = none := by simpa [Addr.add] using World.cell?_spot (hcell 0 (by omega))
    subst hspot
    have hb : b < W.heap.size := by
      have := hlt (.cell b (off + 0)) (by rw [hp]; exact MemPlace.mem_row.2 ⟨0, by omega, rfl⟩)
      exact this
    refine ⟨b, off, rfl, hb, fun k u hu => ?_⟩
    rw [List.getElem?_map] at hu
    obtain ⟨s, hs, rfl⟩ := Option.map_eq_some_iff.1 hu
    have hk : k < n := by
      have := (List.getElem?_eq_some_iff.1 hs).1
      simp at this
      omega
    have hs' : ss[k]? = some s := by rwa [List.getElem?_take_of_lt hk] at hs
    rw [← Go.WideShapes.add_plain, hcell k (by omega)]
    simp [List.getD, hs']

/-- a slice of integers that came in -/
def SRB (k : IntKind) (W : World) (A : Option Addr) (n : Nat) (zs : List Int) : Prop := SR W W.heap.size A n (zs.map (Value.int k)) ∧ n ≤ maxLen ∧ ∀ z ∈ zs, (Lit.int k z).wf = true
theorem sr_ints {k : IntKind} {W : World} {t e : TypeId} {a0 : Option Addr} {n c : Nat} {d : DataW H} {p : List MemPlace} (ht : P.underlying t = some (.slice e)) (he : P.underlying e = some (.int k)) (hc : P.cellsOf e = 1)
    (h : DataW.Trod enc P W 0 (fun _ => true) true t (.slice a0 n c) d p) (hlt : ∀ x ∈ p, x.block < W.heap.size) : ∃ zs : List Int, SRB k W a0 n zs := by
  obtain ⟨fuel, hf⟩ := h
  rcases open_ints ht he hc hf with ⟨hcs, _⟩ | ⟨a, l, c', zs, hcs, _, hl, hm, hz, hx, hcell, hws⟩
  · simp [Value.cells] at hcs
    obtain ⟨rfl, rfl, rfl⟩ := hcs
    exact ⟨[], SR.nil_, by simp, by simp⟩
  · simp [Value.cells] at hcs
    obtain ⟨rfl, rfl, rfl⟩ := hcs
    simp only [if_true] at hz
    have hp : p = MemPlace.row a zs.length := (Prod.mk.inj hx).2
    refine ⟨zs.take n, ⟨by simp; omega, fun hn => ?_⟩, by omega, fun z hz => hws z (List.mem_of_mem_take hz)⟩
    obtain ⟨b, off, rfl, hat⟩ := ints_at hcell (by omega)
    have hb : b < W.heap.size := by
      have := hlt (.cell b (off + 0)) (by rw [hp]; exact MemPlace.mem_row.2 ⟨0, by omega, rfl⟩)
      exact this
    refine ⟨b, off, rfl, hb, fun j u hu => ?_⟩
    rw [List.getElem?_map] at hu
    obtain ⟨z, hz2, rfl⟩ := Option.map_eq_some_iff.1 hu
    have hj : j < n := by
      have := (List.getElem?_eq_some_iff.1 hz2).1
      simp at this
      omega
    have hz' : zs[j]? = some z := by rwa [List.getElem?_take_of_lt hj] at hz2
    rw [hat j (by omega)]
    simp [List.getD, hz']
theorem SRB.bytes {W : World} {A : Option Addr} {n : Nat} {zs : List Int} (h : SRB .u8 W A n zs) : ∀ z ∈ zs, 0 ≤ z ∧ z ≤ 255 := fun z hz => bounds_u8 (h.2.2 z hz)

/-- the row's last step where the world is known below the old heap alone -/
theorem shut_below {f : Func} {s : ChangeSpec} {apart fresh handsOn again : Bool} {W W' : World} {args : Array Value} {v : Value} {ds gs : List (DataW H)} {before pa pv : List MemPlace}
    (hW : DataW.Whole enc P f.params.toList s.vars apart W args.toList ds gs before)
    (hres : ∀ (b : Nat) (sp : Nat → Bool) (hd : Bool), DataW.TrodAll enc P W' b sp hd f.resultTypes.toList (v.resultList f.resultTypes.size) (s.fn H (ds ++ gs)).results [])
    (hargs : ∀ sp : Nat → Bool, (∀ p ∈ before, sp p.block = true) → DataW.TrodAll enc P W' 0 sp true f.params.toList args.toList (s.fn H (ds ++ gs)).args pa)
    (hvars : ∀ sp : Nat → Bool, (∀ p ∈ before, sp p.block = true) → DataW.TrodVars enc P W' sp s.vars (s.fn H (ds ++ gs)).vars pv)
    (hps : before = pa ++ pv) (hb : Below W.heap.size W W')
    (hok : ∀ (j : Nat) (t : TypeId) (r : Value), f.resultTypes[j]? = some t → (v.resultList f.resultTypes.size)[j]? = some r → Value.okWide P W' .any 0 t r) :
    s.post enc P f apart fresh handsOn again W args v W' := by
  have hlt : ∀ p ∈ before, p.block < W.heap.size := fun p hp => hW.lt p hp
  have hold : ∀ p ∈ before, (fun b => decide (b < W.heap.size)) p.block = true := fun p hp => by simpa using hlt p hp
  refine ⟨ds, gs, before, [], pa, pv, hW, hres _ _ _, hargs _ hold, hvars _ hold, World.keptBut_mono (fun p hp => ⟨hp, ?_⟩) (hb.frame (· ∈ before)), fun _ => ?_⟩
  · rw [hps, List.mem_append] at hp
    exact .inr hp
  · obtain ⟨_, _, _, _, _, hz, hn⟩ := hW
    refine ⟨hok, _, _, ([] ++ pa) ++ pv, ⟨[] ++ pa, pv, trodAll_append (hargs _ (fun _ _ => rfl)) (hres _ _ _), hvars _ (fun _ _ => rfl), rfl, ?_, ?_⟩, ?_⟩
    · intro b off hp
      have hin : MemPlace.cell b off ∈ before := by rw [hps]; simpa using hp
      rw [hb.frozen (hlt _ hin)]
      exact hz b off hin
    · intro ha
      have := hn ha
      rw [hps] at this
      simpa using this
    · intro p hp _
      rw [hps]
      simpa using hp
end
end Go.Proofs.YtlpgldejmdiceabDoor.kit
end

section
namespace Go.Proofs.YtlpgldejmdiceabDoor.strs
open kit
open Go.ChangeShapes Go.WideShapes Go.ChangeAt Go.RowKit

/-- bytes of all strings together -/
def tot : List ByteArray → Nat
  | [] => 0
  | s :: r => s.size + tot r
theorem tot_append (a b : List ByteArray) : tot (a ++ b) = tot a + tot b := by
  induction a with
  | nil => simp [tot]
  | cons x a ih => simp only [List.cons_append, tot, ih]; omega
theorem tot_snoc {ss : List ByteArray} {k : Nat} {s : ByteArray} (h : ss[k]? = some s) : tot (ss.take (k + 1)) = tot (ss.take k) + s.size := by
  rw [take_snoc h, tot_append]; simp [tot]
theorem tot_take_le (ss : List ByteArray) (k : Nat) : tot (ss.take k) ≤ tot ss := by
  have := tot_append (ss.take k) (ss.drop k)
  rw [List.take_append_drop] at this
  omega

/-- what szStringS tells: a number below 0, or what is left -/
def szPost (ss : List ByteArray) (left : Int) (w : World) (e : Ending) (w' : World) : Prop :=
  ∃ r : Int, e = .returned (.int .i64 r) ∧ (r < 0 ∨ r = left - (ss.length : Int) - (tot ss : Int)) ∧ r ≤ left ∧ w = w'

theorem str_info : (Tryd.prog.info? 9).map (fun i => (i.zero, i.size, i.bytes)) = some (some (.string ⟨#[]⟩), 1, 16) := by kernel_rfl

/-- the k-th of these strings, as a cell -/
def at_ (ss : List ByteArray) (i : Nat) : Value := .string (ss.getD i ⟨#[]⟩)
theorem at_of {ss : List ByteArray} {k : Nat} {s : ByteArray} (h : ss[k]? = some s) : at_ ss k = .string s := by simp [at_, List.getD, h]

/-- what toStringS tells: a new row with the same strings -/
def toPost (ss : List ByteArray) (w : World) (e : Ending) (w' : World) : Prop :=
  ∃ b : Nat, e = .returned (.slice (some ⟨b, 0, none⟩) ss.length ss.length) ∧ w.heap.size ≤ b ∧ b < w'.heap.size ∧ w'.rowIs b 9 ss.length (at_ ss) ∧ Below w.heap.size w w'

end Go.Proofs.YtlpgldejmdiceabDoor.strs
end

section
namespace Go.Proofs.YtlpgldejmdiceabDoor.bg
open Go.RowKit

structure Ctl where
  name : ByteArray
  ports : Int
  kind : Int
structure Nd where
  control : Int
  parent : Int
  links : List Int
structure Wr where
  name : ByteArray
  link : Int
structure Big where
  roots : Int
  nodes : List Nd
  sites : List Int
  edges : Int
  outer : List ByteArray
  inner : List Wr

/-- a number within bounds -/
def inb (x lo hi : Int) : Bool := decide (lo ≤ x ∧ x ≤ hi)
theorem inb_true {x lo hi : Int} (h : inb x lo hi = true) : lo ≤ x ∧ x ≤ hi := of_decide_eq_true h
theorem inb_false {x lo hi : Int} (h : inb x lo hi = false) : ¬ (lo ≤ x ∧ x ≤ hi) := of_decide_eq_false h
theorem inb_mk {x lo hi : Int} (h : lo ≤ x ∧ x ≤ hi) : inb x lo hi = true := decide_eq_true h
theorem inb_not {x lo hi : Int} (h : ¬ (lo ≤ x ∧ x ≤ hi)) : inb x lo hi = false := decide_eq_false h

theorem str_eq {a b : ByteArray} (h : (a.toList == b.toList) = true) : a = b := by
  have e : a.toList = b.toList := eq_of_beq h
  rw [ByteArray.toList_eq, ByteArray.toList_eq] at e
  exact Go.WideShapes.bytes_inj e
theorem str_ne {a b : ByteArray} (h : (a.toList == b.toList) = false) : a ≠ b := fun e => by
  subst e
  simp at h

/-- a byte of a name -/
def letB (c : UInt8) : Bool := decide (97 ≤ (c.toNat : Int) ∧ (c.toNat : Int) ≤ 122)
def nameB (s : ByteArray) : Bool := s.data.toList.all letB && inb s.size 1 4
def ctlB (c : Ctl) : Bool := nameB c.name && inb c.ports 0 3 && inb c.kind 0 2

def SigP (cs : List Ctl) : Prop :=
  (∀ (k : Nat) c, cs[k]? = some c → ctlB c = true) ∧ (∀ (i j : Nat) a b, j < i → cs[i]? = some a → cs[j]? = some b → b.name ≠ a.name) ∧ inb cs.length 1 6 = true
open Classical in
noncomputable def sigB (cs : List Ctl) : Bool := decide (SigP cs)
open Classical in
theorem sig_true {cs : List Ctl} (h : SigP cs) : sigB cs = true := by unfold sigB; exact decide_eq_true h
open Classical in
theorem sig_false {cs : List Ctl} (h : ¬ SigP cs) : sigB cs = false := by unfold sigB; exact decide_eq_false h
open Classical in
theorem sig_of {cs : List Ctl} (h : sigB cs = true) : SigP cs := by unfold sigB at h; exact of_decide_eq_true h

/-- one string before another -/
def lessB (a b : ByteArray) : Bool := Op.bytesLess a.toList b.toList
/-- names, strictly ascending -/
def NamesP (ss : List ByteArray) : Prop :=
  (∀ (k : Nat) s, ss[k]? = some s → nameB s = true) ∧ (∀ (k : Nat) a b, ss[k]? = some a → ss[k + 1]? = some b → lessB a b = true)

/-- what may be the parent of a place behind the first nodes -/
def underB (cs : List Ctl) (b : Big) (parent below : Int) : Bool :=
  if parent < 0 then inb (-1 - parent) 0 (b.roots - 1)
  else decide (parent < below) && match b.nodes[parent.toNat]? with
    | some nd => match cs[nd.control.toNat]? with
      | some c => c.kind != 2
      | none => false
    | none => false
def linkB (b : Big) (l : Int) : Bool := inb l 0 (b.edges + b.outer.length - 1)
/-- the k-th node may have this Control and this parent -/
def seatB (cs : List Ctl) (b : Big) (k : Nat) (nd : Nd) : Bool := inb nd.control 0 (cs.length - 1) && underB cs b nd.parent k
def portsB (cs : List Ctl) (nd : Nd) : Bool := match cs[nd.control.toNat]? with
  | some c => (nd.links.length : Int) == c.ports
  | none => false
def sizesB (b : Big) : Bool := inb b.roots 0 4 && inb b.edges 0 8 && decide (b.nodes.length ≤ 8) && decide (b.sites.length ≤ 4) && decide (b.outer.length ≤ 16) && decide (b.inner.length ≤ 16)

def BigP (cs : List Ctl) (b : Big) : Prop :=
  SigP cs ∧ sizesB b = true ∧ NamesP b.outer ∧ NamesP (b.inner.map (·.name)) ∧
  (∀ (k : Nat) nd, b.nodes[k]? = some nd → seatB cs b k nd = true ∧ portsB cs nd = true ∧ ∀ (i : Nat) l, nd.links[i]? = some l → linkB b l = true) ∧
  (∀ (i : Nat) p, b.sites[i]? = some p → underB cs b p b.nodes.length = true) ∧
  (∀ (i : Nat) x, b.inner[i]? = some x → linkB b x.link = true)
open Classical in
noncomputable def bigB (cs : List Ctl) (b : Big) : Bool := decide (BigP cs b)
open Classical in
theorem big_true {cs : List Ctl} {b : Big} (h : BigP cs b) : bigB cs b = true := by unfold bigB; exact decide_eq_true h
open Classical in
theorem big_false {cs : List Ctl} {b : Big} (h : ¬ BigP cs b) : bigB cs b = false := by unfold bigB; exact decide_eq_false h
open Classical in
theorem big_of {cs : List Ctl} {b : Big} (h : bigB cs b = true) : BigP cs b := by unfold bigB at h; exact of_decide_eq_true h

/-! ### where they lie in memory -/
def CtlsAt (w : World) (B : Nat) (A : Option Addr) (n : Nat) (cs : List Ctl) : Prop :=
  cs.length = n ∧ (0 < n → ∃ b off, A = some ⟨b, off, none⟩ ∧ b < B ∧ ∀ (k : Nat) c, cs[k]? = some c →
    w.cell? ⟨b, off + k * 3, none⟩ = some (.string c.name) ∧ w.cell? ⟨b, off + k * 3 + 1, none⟩ = some (.int .i64 c.ports) ∧ w.cell? ⟨b, off + k * 3 + 2, none⟩ = some (.int .i64 c.kind))
def WrsAt (w : World) (B : Nat) (A : Option Addr) (n : Nat) (ws : List Wr) : Prop :=
  ws.length = n ∧ (0 < n → ∃ b off, A = some ⟨b, off, none⟩ ∧ b < B ∧ ∀ (k : Nat) x, ws[k]? = some x →
    w.cell? ⟨b, off + k * 2, none⟩ = some (.string x.name) ∧ w.cell? ⟨b, off + k * 2 + 1, none⟩ = some (.int .i64 x.link))
open kit in
def IntsAt (w : World) (B : Nat) (A : Option Addr) (n : Nat) (zs : List Int) : Prop := SR w B A n (zs.map (Value.int .i64))
def NdsAt (w : World) (B : Nat) (A : Option Addr) (n : Nat) (ns : List Nd) : Prop :=
  ns.length = n ∧ (0 < n → ∃ b off, A = some ⟨b, off, none⟩ ∧ b < B ∧ ∀ (k : Nat) x, ns[k]? = some x →
    w.cell? ⟨b, off + k * 3, none⟩ = some (.int .i64 x.control) ∧ w.cell? ⟨b, off + k * 3 + 1, none⟩ = some (.int .i64 x.parent) ∧
    ∃ A' n' c', w.cell? ⟨b, off + k * 3 + 2, none⟩ = some (.slice A' n' c') ∧ IntsAt w B A' n' x.links)

section
variable {w w' : World} {B B' n : Nat} {A : Option Addr}
theorem CtlsAt.get {cs : List Ctl} {k : Nat} (h : CtlsAt w B A n cs) (hk : k < n) : ∃ b off c, A = some ⟨b, off, none⟩ ∧ b < B ∧ cs[k]? = some c ∧
    w.cell? ⟨b, off + k * 3, none⟩ = some (.string c.name) ∧ w.cell? ⟨b, off + k * 3 + 1, none⟩ = some (.int .i64 c.ports) ∧ w.cell? ⟨b, off + k * 3 + 2, none⟩ = some (.int .i64 c.kind) := by
  obtain ⟨b, off, e, hb, hc⟩ := h.2 (by omega)
  have hx : cs[k]? = some (cs[k]'(by have := h.1; omega)) := List.getElem?_eq_getElem _
  obtain ⟨h1, h2, h3⟩ := hc k _ hx
  exact ⟨b, off, _, e, hb, hx, h1, h2, h3⟩
theorem CtlsAt.move {cs : List Ctl} (h : CtlsAt w B A n cs) (hk : ∀ p : Addr, p.block < B → w'.cell? p = w.cell? p) : CtlsAt w' B A n cs :=
  ⟨h.1, fun hn => by
    obtain ⟨b, off, e, hb, hc⟩ := h.2 hn
    refine ⟨b, off, e, hb, fun k c hu => ?_⟩
    obtain ⟨h1, h2, h3⟩ := hc k c hu
    exact ⟨(hk _ hb).trans h1, (hk _ hb).trans h2, (hk _ hb).trans h3⟩⟩
theorem CtlsAt.below {cs : List Ctl} (h : CtlsAt w B A n cs) (hb : Below B w w') : CtlsAt w' B A n cs := h.move fun _ hp => hb.cell hp
theorem CtlsAt.wide {cs : List Ctl} (h : CtlsAt w B A n cs) (hB : B ≤ B') : CtlsAt w B' A n cs :=
  ⟨h.1, fun hn => by
    obtain ⟨b, off, e, hb, hc⟩ := h.2 hn
    exact ⟨b, off, e, by omega, hc⟩⟩
theorem WrsAt.get {cs : List Wr} {k : Nat} (h : WrsAt w B A n cs) (hk : k < n) : ∃ b off c, A = some ⟨b, off, none⟩ ∧ b < B ∧ cs[k]? = some c ∧
    w.cell? ⟨b, off + k * 2, none⟩ = some (.string c.name) ∧ w.cell? ⟨b, off + k * 2 + 1, none⟩ = some (.int .i64 c.link) := by
  obtain ⟨b, off, e, hb, hc⟩ := h.2 (by omega)
  have hx : cs[k]? = some (cs[k]'(by have := h.1; omega)) := List.getElem?_eq_getElem _
  obtain ⟨h1, h2⟩ := hc k _ hx
  exact ⟨b, off, _, e, hb, hx, h1, h2⟩
theorem WrsAt.move {cs : List Wr} (h : WrsAt w B A n cs) (hk : ∀ p : Addr, p.block < B → w'.cell? p = w.cell? p) : WrsAt w' B A n cs :=
  ⟨h.1, fun hn => by
    obtain ⟨b, off, e, hb, hc⟩ := h.2 hn
    refine ⟨b, off, e, hb, fun k c hu => ?_⟩
    obtain ⟨h1, h2⟩ := hc k c hu
    exact ⟨(hk _ hb).trans h1, (hk _ hb).trans h2⟩⟩
theorem WrsAt.below {cs : List Wr} (h : WrsAt w B A n cs) (hb : Below B w w') : WrsAt w' B A n cs := h.move fun _ hp => hb.cell hp
theorem WrsAt.wide {cs : List Wr} (h : WrsAt w B A n cs) (hB : B ≤ B') : WrsAt w B' A n cs :=
  ⟨h.1, fun hn => by
    obtain ⟨b, off, e, hb, hc⟩ := h.2 hn
    exact ⟨b, off, e, by omega, hc⟩⟩
theorem IntsAt.get {zs : List Int} {k : Nat} (h : IntsAt w B A n zs) (hk : k < n) : ∃ b off z, A = some ⟨b, off, none⟩ ∧ b < B ∧ zs[k]? = some z ∧ w.cell? ⟨b, off + k, none⟩ = some (.int .i64 z) := by
  obtain ⟨b, off, u, e, hb, hx, hc⟩ := kit.SR.get h hk
  rw [List.getElem?_map] at hx
  obtain ⟨s, hs, rfl⟩ := Option.map_eq_some_iff.1 hx
  exact ⟨b, off, s, e, hb, hs, hc⟩
theorem IntsAt.len {zs : List Int} (h : IntsAt w B A n zs) : zs.length = n := by simpa using kit.SR.len h
theorem IntsAt.below {zs : List Int} (h : IntsAt w B A n zs) (hb : Below B w w') : IntsAt w' B A n zs := kit.SR.below h hb
theorem IntsAt.move {zs : List Int} (h : IntsAt w B A n zs) (hk : ∀ p : Addr, p.block < B → w'.cell? p = w.cell? p) : IntsAt w' B A n zs := kit.SR.move h hk
theorem IntsAt.wide {zs : List Int} (h : IntsAt w B A n zs) (hB : B ≤ B') : IntsAt w B' A n zs := kit.SR.wide h hB
theorem NdsAt.get {cs : List Nd} {k : Nat} (h : NdsAt w B A n cs) (hk : k < n) : ∃ b off c, A = some ⟨b, off, none⟩ ∧ b < B ∧ cs[k]? = some c ∧
    w.cell? ⟨b, off + k * 3, none⟩ = some (.int .i64 c.control) ∧ w.cell? ⟨b, off + k * 3 + 1, none⟩ = some (.int .i64 c.parent) ∧
    ∃ A' n' c', w.cell? ⟨b, off + k * 3 + 2, none⟩ = some (.slice A' n' c') ∧ IntsAt w B A' n' c.links := by
  obtain ⟨b, off, e, hb, hc⟩ := h.2 (by omega)
  have hx : cs[k]? = some (cs[k]'(by have := h.1; omega)) := List.getElem?_eq_getElem _
  obtain ⟨h1, h2, h3⟩ := hc k _ hx
  exact ⟨b, off, _, e, hb, hx, h1, h2, h3⟩
theorem NdsAt.move {cs : List Nd} (h : NdsAt w B A n cs) (hk : ∀ p : Addr, p.block < B → w'.cell? p = w.cell? p) : NdsAt w' B A n cs :=
  ⟨h.1, fun hn => by
    obtain ⟨b, off, e, hb, hc⟩ := h.2 hn
    refine ⟨b, off, e, hb, fun k c hu => ?_⟩
    obtain ⟨h1, h2, A', n', c', h3, h4⟩ := hc k c hu
    exact ⟨(hk _ hb).trans h1, (hk _ hb).trans h2, A', n', c', (hk _ hb).trans h3, h4.move hk⟩⟩
theorem NdsAt.below {cs : List Nd} (h : NdsAt w B A n cs) (hb : Below B w w') : NdsAt w' B A n cs := h.move fun _ hp => hb.cell hp
theorem NdsAt.wide {cs : List Nd} (h : NdsAt w B A n cs) (hB : B ≤ B') : NdsAt w B' A n cs :=
  ⟨h.1, fun hn => by
    obtain ⟨b, off, e, hb, hc⟩ := h.2 hn
    refine ⟨b, off, e, by omega, fun k c hu => ?_⟩
    obtain ⟨h1, h2, A', n', c', h3, h4⟩ := hc k c hu
    exact ⟨h1, h2, A', n', c', h3, h4.wide hB⟩⟩
end

/-- a Bigraph as a value: what its slices hold lies below block B -/
def BigAt (w : World) (B : Nat) (v : Value) (b : Big) : Prop :=
  ∃ A1 n1 c1 A2 n2 c2 A4 n4 c4 A5 n5 c5, v = .agg #[.int .i64 b.roots, .slice A1 n1 c1, .slice A2 n2 c2, .int .i64 b.edges, .slice A4 n4 c4, .slice A5 n5 c5] ∧
    NdsAt w B A1 n1 b.nodes ∧ IntsAt w B A2 n2 b.sites ∧ kit.SR w B A4 n4 (b.outer.map Value.string) ∧ WrsAt w B A5 n5 b.inner
section
variable {w w' : World} {B B' : Nat} {v : Value} {b : Big}
theorem BigAt.move (h : BigAt w B v b) (hk : ∀ p : Addr, p.block < B → w'.cell? p = w.cell? p) : BigAt w' B v b := by
  obtain ⟨A1, n1, c1, A2, n2, c2, A4, n4, c4, A5, n5, c5, e, h1, h2, h4, h5⟩ := h
  exact ⟨A1, n1, c1, A2, n2, c2, A4, n4, c4, A5, n5, c5, e, h1.move hk, h2.move hk, h4.move hk, h5.move hk⟩
theorem BigAt.below (h : BigAt w B v b) (hb : Below B w w') : BigAt w' B v b := h.move fun _ hp => hb.cell hp
theorem BigAt.wide (h : BigAt w B v b) (hB : B ≤ B') : BigAt w B' v b := by
  obtain ⟨A1, n1, c1, A2, n2, c2, A4, n4, c4, A5, n5, c5, e, h1, h2, h4, h5⟩ := h
  exact ⟨A1, n1, c1, A2, n2, c2, A4, n4, c4, A5, n5, c5, e, h1.wide hB, h2.wide hB, h4.wide hB, h5.wide hB⟩
end
end Go.Proofs.YtlpgldejmdiceabDoor.bg
end

section
namespace Go.Proofs.YtlpgldejmdiceabDoor.mapb
open Go.Maps (Keyed)
open Go.RowKit

theorem plainElem_bool_inv {H : Type} {P : Program} {e : TypeId} (he : P.underlying e = some .bool) {v : Value} {z : DataW H × List MemPlace} (h : plainElem P e v = some z) : ∃ x, v = .bool x ∧ z = (.lit (.bool x), []) := by
  unfold plainElem at h
  rw [he] at h
  cases v <;> simp at h
  obtain rfl := h
  exact ⟨_, rfl, rfl⟩

/-- block b is a map of at most n entries, and looking a key up in it gives true just for the keys in S -/
def SetAt (P : Program) (k e : TypeId) (w : World) (b n : Nat) (S : Lit → Prop) : Prop :=
  ∃ D : DataW Unit, w.ownsMap P k (plainElem P e) b n D ∧ Maps.IsMap D ∧ ∀ kl, WideAt.IsKeyLit kl → ∃ x, D.atKey kl (.lit (.bool false)) = .lit (.bool x) ∧ (x = true ↔ S kl)

section
variable {P : Program} {k e : TypeId} {w : World} {b n : Nat} {S : Lit → Prop}
theorem SetAt.run (h : SetAt P k e w b n S) {t : TypeId} (K : Keyed P k) (ht : P.underlying t = some (.map k e)) (he : P.underlying e = some .bool) (hz : (zeroValue e).run P w = .ok (.bool false) w)
    {key : Value} {kl : Lit} (hkey : keyOf P k key = some kl) (hkl : WideAt.IsKeyLit kl) : ∃ x, (Instr.lookup t (.map (some b)) key false).run P w = .ok (.bool x) w ∧ (x = true ↔ S kl) := by
  obtain ⟨D, hown, _, hS⟩ := h
  obtain ⟨v, ps, hrun, hv⟩ := hown.lookup K ht hz (plainElem_bool he false) hkey
  obtain ⟨x, rfl, hx⟩ := plainElem_bool_inv he hv
  obtain ⟨x', h1, h2⟩ := hS kl hkl
  rw [h1] at hx
  simp at hx
  exact ⟨x, hrun, by rw [← hx.1]; exact h2⟩
theorem SetAt.run_true (h : SetAt P k e w b n S) {t : TypeId} (K : Keyed P k) (ht : P.underlying t = some (.map k e)) (he : P.underlying e = some .bool) (hz : (zeroValue e).run P w = .ok (.bool false) w)
    {key : Value} {kl : Lit} (hkey : keyOf P k key = some kl) (hkl : WideAt.IsKeyLit kl) (hS : S kl) : (Instr.lookup t (.map (some b)) key false).run P w = .ok (.bool true) w := by
  obtain ⟨x, h1, h2⟩ := h.run K ht he hz hkey hkl
  rw [h1, h2.2 hS]
theorem SetAt.run_false (h : SetAt P k e w b n S) {t : TypeId} (K : Keyed P k) (ht : P.underlying t = some (.map k e)) (he : P.underlying e = some .bool) (hz : (zeroValue e).run P w = .ok (.bool false) w)
    {key : Value} {kl : Lit} (hkey : keyOf P k key = some kl) (hkl : WideAt.IsKeyLit kl) (hS : ¬ S kl) : (Instr.lookup t (.map (some b)) key false).run P w = .ok (.bool false) w := by
  obtain ⟨x, h1, h2⟩ := h.run K ht he hz hkey hkl
  cases x
  · exact h1
  · exact absurd (h2.1 rfl) hS
theorem SetAt.congr {S' : Lit → Prop} (h : SetAt P k e w b n S) (hS : ∀ l, S l ↔ S' l) : SetAt P k e w b n S' := by
  obtain ⟨D, h1, h2, h3⟩ := h
  exact ⟨D, h1, h2, fun kl hk => by
    obtain ⟨x, e1, e2⟩ := h3 kl hk
    exact ⟨x, e1, e2.trans (hS kl)⟩⟩
theorem SetAt.made (w : World) (P : Program) (k e : TypeId) : SetAt P k e (w.alloc (.map #[] 0)) w.heap.size 0 (fun _ => False) :=
  ⟨_, World.ownsMap_made w P k _, ⟨_, rfl⟩, fun kl hk => ⟨false, WideAt.atKey_none _ (by simp), by simp⟩⟩
theorem SetAt.kept {w' : World} {row : Option Nat} (h : SetAt P k e w b n S) (hg : w.grownBy w' row) (hne : some b ≠ row) : SetAt P k e w' b n S := by
  obtain ⟨D, hown, r⟩ := h
  exact ⟨D, hown.kept hg hne, r⟩
theorem SetAt.lt (h : SetAt P k e w b n S) : b < w.heap.size := by
  obtain ⟨D, hown, _⟩ := h
  exact hown.lt
theorem SetAt.block {w' : World} (h : SetAt P k e w b n S) (e2 : w'.heap[b]? = w.heap[b]?) : SetAt P k e w' b n S := by
  obtain ⟨D, ⟨es, clock, hb, r⟩, q⟩ := h
  exact ⟨D, ⟨es, clock, e2.trans hb, r⟩, q⟩
theorem SetAt.below {w' : World} {B : Nat} (h : SetAt P k e w b n S) (hb : Below B w w') (hB : b < B) : SetAt P k e w' b n S := h.block (hb.block b hB)

theorem wpList_store_set (w : World) {ops : Array Oper} {rest : List Oper} {o : Oper} {a : Act} {Q : Exit → Act → World → Prop}
    (hg : o.guard = none) (m x v : Operand) (t : TypeId) (hop : o.op = Op.mapUpdate t m x v)
    (k e : TypeId) (K : Keyed P k) (ht : P.underlying t = some (.map k e)) (he : P.underlying e = some .bool) (b n : Nat) (S : Lit → Prop)
    (hm : a.eval m = .map (some b)) (h : SetAt P k e w b n S) (hn : n < maxLen) (key : Value) (y : Bool) (kl : Lit) (hx : a.eval x = key) (hv : a.eval v = .bool y) (hkey : keyOf P k key = some kl) (hkl : WideAt.IsKeyLit kl)
    (hK : ∀ w', SetAt P k e w' b (n + 1) (fun l => (l = kl ∧ y = true) ∨ (l ≠ kl ∧ S l)) → w.grownBy w' (some b) → wpList P ops Q rest (a.put o.dst undef) w') :
    wpList P ops Q (o :: rest) a w := by
  obtain ⟨D, hown, hmap, hS⟩ := h
  refine wpList_mapUpdate_own w hg m x v t hop k e K ht _ b n D hm hown hn key (.bool y) kl hx hv hkey (.lit (.bool y)) [] (plainElem_bool he y) ?_
  intro w1 hown1 hg1
  refine hK w1 ⟨_, hown1, ?_, fun l hl => ?_⟩ hg1
  · exact hmap.put _ _
  · by_cases e2 : l = kl
    · subst e2
      exact ⟨y, Maps.atKey_put_same hmap hl _ _, by simp⟩
    · obtain ⟨x, h1, h2⟩ := hS l hl
      exact ⟨x, by rw [Maps.atKey_put_other e2]; exact h1, by simp [e2, h2]⟩
end
end Go.Proofs.YtlpgldejmdiceabDoor.mapb
end

section
namespace Go.Proofs.YtlpgldejmdiceabDoor.opn
open kit bg
open Go.ChangeShapes Go.WideShapes Go.ChangeAt Go.RowKit Go.Deep Go.Joins

theorem list_of {α : Type} {Q : Nat → α → Prop} : ∀ {n : Nat}, (∀ i, i < n → ∃ x, Q i x) → ∃ xs : List α, xs.length = n ∧ ∀ (k : Nat) x, xs[k]? = some x → Q k x := by
  intro n
  induction n with
  | zero => intro _; exact ⟨[], rfl, by simp⟩
  | succ n ih =>
    intro h
    obtain ⟨xs, hl, hx⟩ := ih (fun i hi => h i (by omega))
    obtain ⟨x, hq⟩ := h n (by omega)
    refine ⟨xs ++ [x], by simp [hl], fun k y hy => ?_⟩
    by_cases hk : k < n
    · rw [List.getElem?_append_left (by omega)] at hy
      exact hx k y hy
    · have hkn : k = n := by
        have := (List.getElem?_eq_some_iff.1 hy).1
        simp [hl] at this
        omega
      subst hkn
      rw [List.getElem?_append_right (by omega)] at hy
      simp [hl] at hy
      subst hy
      exact hq

def NdW (x : Nd) : Prop := (Lit.int .i64 x.control).wf = true ∧ (Lit.int .i64 x.parent).wf = true ∧ x.links.length ≤ maxLen ∧ ∀ z ∈ x.links, (Lit.int .i64 z).wf = true
def CtlW (x : Ctl) : Prop := x.name.size ≤ maxLen ∧ (Lit.int .i64 x.ports).wf = true ∧ (Lit.int .i64 x.kind).wf = true
def WrW (x : Wr) : Prop := x.name.size ≤ maxLen ∧ (Lit.int .i64 x.link).wf = true
def CtlsW (cs : List Ctl) : Prop := cs.length ≤ maxLen ∧ ∀ c ∈ cs, CtlW c
def BigW (b : Big) : Prop := (Lit.int .i64 b.roots).wf = true ∧ (Lit.int .i64 b.edges).wf = true ∧ b.nodes.length ≤ maxLen ∧ (∀ x ∈ b.nodes, NdW x) ∧ b.sites.length ≤ maxLen ∧ (∀ z ∈ b.sites, (Lit.int .i64 z).wf = true) ∧
  b.outer.length ≤ maxLen ∧ (∀ s ∈ b.outer, s.size ≤ maxLen) ∧ b.inner.length ≤ maxLen ∧ ∀ x ∈ b.inner, WrW x

section
variable {H : Type} {enc : TypeId × Value → H} {P : Program} {W : World} {fuel : Nat}

theorem ints_of {t e : TypeId} (ht : P.underlying t = some (.slice e)) (he : P.underlying e = some (.int .i64)) (hc : P.cellsOf e = 1) {v : Value} {y : DataW H × List MemPlace}
    (h : DataW.trod enc P W 0 (fun _ => true) true fuel t [v] = some y) (hlt : ∀ x ∈ y.2, x.block < W.heap.size) : ∃ A n c zs, v = .slice A n c ∧ IntsAt W W.heap.size A n zs ∧ n ≤ maxLen ∧ ∀ z ∈ zs, (Lit.int .i64 z).wf = true := by
  have hv : ∃ A n c, v = .slice A n c := by
    rcases open_ints ht he hc h with ⟨hcs, _⟩ | ⟨a, l, c', zs, hcs, _⟩
    · simp at hcs; exact ⟨_, _, _, hcs⟩
    · simp at hcs; exact ⟨_, _, _, hcs⟩
  obtain ⟨A, n, c, rfl⟩ := hv
  obtain ⟨d, p⟩ := y
  obtain ⟨zs, h1, h2, h3⟩ := sr_ints (a0 := A) (n := n) (c := c) ht he hc ⟨fuel, by simpa [Value.cells] using h⟩ hlt
  exact ⟨A, n, c, zs, rfl, h1, h2, h3⟩
theorem strs_of {t e : TypeId} (ht : P.underlying t = some (.slice e)) (he : P.underlying e = some .string) (hc : P.cellsOf e = 1) {v : Value} {y : DataW H × List MemPlace}
    (h : DataW.trod enc P W 0 (fun _ => true) true fuel t [v] = some y) (hlt : ∀ x ∈ y.2, x.block < W.heap.size) : ∃ A n c, ∃ ss : List ByteArray, v = .slice A n c ∧ SR W W.heap.size A n (ss.map Value.string) ∧ n ≤ maxLen ∧ ∀ s ∈ ss, s.size ≤ maxLen := by
  have hv : ∃ A n c, v = .slice A n c := by
    rcases open_strings ht he hc h with ⟨hcs, _⟩ | ⟨a, l, c', zs, hcs, _⟩
    · simp at hcs; exact ⟨_, _, _, hcs⟩
    · simp at hcs; exact ⟨_, _, _, hcs⟩
  obtain ⟨A, n, c, rfl⟩ := hv
  obtain ⟨d, p⟩ := y
  obtain ⟨zs, h1, h2, h3⟩ := sr_strings (a0 := A) (n := n) (c := c) ht he hc ⟨fuel, by simpa [Value.cells] using h⟩ hlt
  exact ⟨A, n, c, zs, rfl, h1, h2, h3⟩

theorem add_none (b off k : Nat) : Addr.add ⟨b, off, none⟩ k = ⟨b, off + k, none⟩ := Go.WideShapes.add_plain b off k

/-- the parts of a struct of one-cell fields -/
theorem struct_parts {t : TypeId} {fs : Array Field} {cs : List Value} {x : DataW H × List MemPlace} (hs : P.underlying t = some (.struct fs)) (hone : oneCellFields P fs = true) (hC : P.cellsOf t = fs.size)
    (h : DataW.trod enc P W 0 (fun _ => true) true fuel t cs = some x) : cs.length = fs.size ∧ ∃ m, ∀ (j : Nat) f, fs[j]? = some f → ∃ u z, cs[j]? = some u ∧ DataW.trod enc P W 0 (fun _ => true) true m f.type [u] = some z ∧ ∀ p ∈ z.2, p ∈ x.2 := by
  obtain ⟨xs, m, _, hx, hlen, hxl, hf⟩ := DataW.trod_struct hs h
  have hl : cs.length = fs.size := hlen.trans hC
  refine ⟨hl, m, fun j f hj => ?_⟩
  have hjl : j < cs.length := by rw [hl]; exact (Array.getElem?_eq_some_iff.1 hj).1
  obtain ⟨ho, hk⟩ := hone_of hone j f hj
  have h1 := hf j f hj
  have hd : (cs.drop f.offset).take (P.cellsOf f.type) = [cs[j]] := by
    rw [ho, hk, List.drop_eq_getElem_cons hjl]; rfl
  rw [hd] at h1
  have hxj : xs[j]? = some (xs[j]'(by omega)) := List.getElem?_eq_getElem _
  refine ⟨_, _, List.getElem?_eq_getElem hjl, h1.trans hxj, fun p hp => ?_⟩
  rw [hx]
  exact List.mem_flatMap.2 ⟨_, List.getElem_mem _, hp⟩

/-- a slice of structs of one-cell fields: each element's cells and their reading -/
theorem rows_of {t e : TypeId} {fs : Array Field} (ht : P.underlying t = some (.slice e)) (he : P.underlying e = some (.struct fs)) (hone : oneCellFields P fs = true) (hC : P.cellsOf e = fs.size) (hfs : 0 < fs.size) {v : Value} {y : DataW H × List MemPlace}
    (h : DataW.trod enc P W 0 (fun _ => true) true fuel t [v] = some y) (hlt : ∀ x ∈ y.2, x.block < W.heap.size) :
    ∃ A n c, v = .slice A n c ∧ n ≤ maxLen ∧ (0 < n → ∃ b off, A = some ⟨b, off, none⟩ ∧ b < W.heap.size ∧ ∀ i, i < n → ∃ m, ∀ (j : Nat) f, fs[j]? = some f →
      ∃ (u : Value) (z : DataW H × List MemPlace), W.cell? ⟨b, off + i * fs.size + j, none⟩ = some u ∧ DataW.trod enc P W 0 (fun _ => true) true m f.type [u] = some z ∧ ∀ x ∈ z.2, x.block < W.heap.size) := by
  rcases open_slice ht h with ⟨hcs, _⟩ | ⟨a, len, cap, m, n, D, Pl, hcs, _, hl, hm, hmm, hx, hi⟩
  · simp at hcs
    exact ⟨none, 0, 0, hcs, by unfold maxLen; omega, fun h0 => absurd h0 (by omega)⟩
  · simp at hcs hmm
    rw [hC] at hi
    have hel : ∀ i, i < m → ∃ m', ∀ (j : Nat) f, fs[j]? = some f → ∃ u z, W.cell? (a.add (i * fs.size + j)) = some u ∧ DataW.trod enc P W 0 (fun _ => true) true m' f.type [u] = some z ∧ ∀ p ∈ z.2, p ∈ Pl i := by
      intro i him
      obtain ⟨cs', hc, ht'⟩ := hi i him
      obtain ⟨_, hcl, hat⟩ := World.cells?_some hc
      obtain ⟨_, m', hp⟩ := struct_parts he hone hC ht'
      refine ⟨m', fun j f hj => ?_⟩
      obtain ⟨u, z, hu, hz, hsub⟩ := hp j f hj
      refine ⟨u, z, ?_, hz, hsub⟩
      rw [← hu, ← hat j (Array.getElem?_eq_some_iff.1 hj).1, Go.Deep.add_add]
    refine ⟨some a, len, cap, hcs, by omega, fun h0 => ?_⟩
    obtain ⟨m0, hf0⟩ := hel 0 (by omega)
    obtain ⟨u0, z0, hc0, _⟩ := hf0 0 _ (Array.getElem?_eq_getElem hfs)
    obtain ⟨b, off, spot⟩ := a
    have hspot : spot = none := by simpa [Addr.add] using World.cell?_spot hc0
    subst hspot
    have hb : b < W.heap.size := by
      have := World.block_lt_of_cell? W _ hc0
      rw [add_none] at this
      exact this
    refine ⟨b, off, rfl, hb, fun i hin => ?_⟩
    obtain ⟨m', hf⟩ := hel i (by omega)
    refine ⟨m', fun j f hj => ?_⟩
    obtain ⟨u, z, hcell, htr, hsub⟩ := hf j f hj
    refine ⟨u, z, ?_, htr, fun x hxz => hlt x ?_⟩
    · rw [← hcell, add_none, Nat.add_assoc]
    · rw [hx]
      exact List.mem_append.2 (.inr (List.mem_flatMap.2 ⟨i, List.mem_range.2 (by omega), hsub x hxz⟩))

theorem ctls_of {t e : TypeId} {f0 f1 f2 : Field} (ht : P.underlying t = some (.slice e)) (he : P.underlying e = some (.struct #[f0, f1, f2])) (hone : oneCellFields P #[f0, f1, f2] = true) (hC : P.cellsOf e = 3)
    (h0 : P.underlying f0.type = some .string) (h1 : P.underlying f1.type = some (.int .i64)) (h2 : P.underlying f2.type = some (.int .i64)) {v : Value} {y : DataW H × List MemPlace}
    (h : DataW.trod enc P W 0 (fun _ => true) true fuel t [v] = some y) (hlt : ∀ x ∈ y.2, x.block < W.heap.size) :
    ∃ A n c cs, v = .slice A n c ∧ CtlsAt W W.heap.size A n cs ∧ CtlsW cs := by
  obtain ⟨A, n, c, rfl, hn, hr⟩ := rows_of ht he hone hC (by simp) h hlt
  by_cases hz : 0 < n
  · obtain ⟨b, off, rfl, hb, hi⟩ := hr hz
    obtain ⟨cs, hl, hcs⟩ := list_of (α := Ctl) (n := n) (Q := fun k c => (W.cell? ⟨b, off + k * 3, none⟩ = some (.string c.name) ∧ W.cell? ⟨b, off + k * 3 + 1, none⟩ = some (.int .i64 c.ports) ∧ W.cell? ⟨b, off + k * 3 + 2, none⟩ = some (.int .i64 c.kind)) ∧ CtlW c) (fun i hin => by
      obtain ⟨m, hf⟩ := hi i hin
      obtain ⟨u0, z0, c0, t0, _⟩ := hf 0 f0 rfl
      obtain ⟨u1, z1, c1, t1, _⟩ := hf 1 f1 rfl
      obtain ⟨u2, z2, c2, t2, _⟩ := hf 2 f2 rfl
      obtain ⟨s, e0, _, w0⟩ := DataW.trod_string h0 t0
      obtain ⟨p, e1, _, w1⟩ := DataW.trod_int h1 t1
      obtain ⟨q, e2, _, w2⟩ := DataW.trod_int h2 t2
      simp at e0 e1 e2
      subst e0 e1 e2
      exact ⟨⟨s, p, q⟩, ⟨c0, c1, c2⟩, w0, w1, w2⟩)
    refine ⟨_, n, c, cs, rfl, ⟨hl, fun _ => ⟨b, off, rfl, hb, fun k c hk => (hcs k c hk).1⟩⟩, by omega, fun c hc => ?_⟩
    obtain ⟨k, hk⟩ := List.getElem?_of_mem hc
    exact (hcs k c hk).2
  · have : n = 0 := by omega
    subst this
    exact ⟨A, 0, c, [], rfl, ⟨rfl, fun h => absurd h (by omega)⟩, by simp [maxLen], by simp⟩

theorem wrs_of {t e : TypeId} {f0 f1 : Field} (ht : P.underlying t = some (.slice e)) (he : P.underlying e = some (.struct #[f0, f1])) (hone : oneCellFields P #[f0, f1] = true) (hC : P.cellsOf e = 2)
    (h0 : P.underlying f0.type = some .string) (h1 : P.underlying f1.type = some (.int .i64)) {v : Value} {y : DataW H × List MemPlace}
    (h : DataW.trod enc P W 0 (fun _ => true) true fuel t [v] = some y) (hlt : ∀ x ∈ y.2, x.block < W.heap.size) :
    ∃ A n c cs, v = .slice A n c ∧ WrsAt W W.heap.size A n cs ∧ n ≤ maxLen ∧ ∀ x ∈ cs, WrW x := by
  obtain ⟨A, n, c, rfl, hn, hr⟩ := rows_of ht he hone hC (by simp) h hlt
  by_cases hz : 0 < n
  · obtain ⟨b, off, rfl, hb, hi⟩ := hr hz
    obtain ⟨cs, hl, hcs⟩ := list_of (α := Wr) (n := n) (Q := fun k c => (W.cell? ⟨b, off + k * 2, none⟩ = some (.string c.name) ∧ W.cell? ⟨b, off + k * 2 + 1, none⟩ = some (.int .i64 c.link)) ∧ WrW c) (fun i hin => by
      obtain ⟨m, hf⟩ := hi i hin
      obtain ⟨u0, z0, c0, t0, _⟩ := hf 0 f0 rfl
      obtain ⟨u1, z1, c1, t1, _⟩ := hf 1 f1 rfl
      obtain ⟨s, e0, _, w0⟩ := DataW.trod_string h0 t0
      obtain ⟨p, e1, _, w1⟩ := DataW.trod_int h1 t1
      simp at e0 e1
      subst e0 e1
      exact ⟨⟨s, p⟩, ⟨c0, c1⟩, w0, w1⟩)
    refine ⟨_, n, c, cs, rfl, ⟨hl, fun _ => ⟨b, off, rfl, hb, fun k c hk => (hcs k c hk).1⟩⟩, hn, fun c hc => ?_⟩
    obtain ⟨k, hk⟩ := List.getElem?_of_mem hc
    exact (hcs k c hk).2
  · have : n = 0 := by omega
    subst this
    exact ⟨A, 0, c, [], rfl, ⟨rfl, fun h => absurd h (by omega)⟩, hn, by simp⟩

theorem nds_of {t e tl el : TypeId} {f0 f1 f2 : Field} (ht : P.underlying t = some (.slice e)) (he : P.underlying e = some (.struct #[f0, f1, f2])) (hone : oneCellFields P #[f0, f1, f2] = true) (hC : P.cellsOf e = 3)
    (h0 : P.underlying f0.type = some (.int .i64)) (h1 : P.underlying f1.type = some (.int .i64)) (h2 : f2.type = tl) (h3 : P.underlying tl = some (.slice el)) (h4 : P.underlying el = some (.int .i64)) (h5 : P.cellsOf el = 1) {v : Value} {y : DataW H × List MemPlace}
    (h : DataW.trod enc P W 0 (fun _ => true) true fuel t [v] = some y) (hlt : ∀ x ∈ y.2, x.block < W.heap.size) :
    ∃ A n c cs, v = .slice A n c ∧ NdsAt W W.heap.size A n cs ∧ n ≤ maxLen ∧ ∀ x ∈ cs, NdW x := by
  obtain ⟨A, n, c, rfl, hn, hr⟩ := rows_of ht he hone hC (by simp) h hlt
  by_cases hz : 0 < n
  · obtain ⟨b, off, rfl, hb, hi⟩ := hr hz
    obtain ⟨cs, hl, hcs⟩ := list_of (α := Nd) (n := n) (Q := fun k x => (W.cell? ⟨b, off + k * 3, none⟩ = some (.int .i64 x.control) ∧ W.cell? ⟨b, off + k * 3 + 1, none⟩ = some (.int .i64 x.parent) ∧
        ∃ A' n' c', W.cell? ⟨b, off + k * 3 + 2, none⟩ = some (.slice A' n' c') ∧ IntsAt W W.heap.size A' n' x.links) ∧ NdW x) (fun i hin => by
      obtain ⟨m, hf⟩ := hi i hin
      obtain ⟨u0, z0, c0, t0, _⟩ := hf 0 f0 rfl
      obtain ⟨u1, z1, c1, t1, _⟩ := hf 1 f1 rfl
      obtain ⟨u2, z2, c2, t2, l2⟩ := hf 2 f2 rfl
      obtain ⟨p, e0, _, w0⟩ := DataW.trod_int h0 t0
      obtain ⟨q, e1, _, w1⟩ := DataW.trod_int h1 t1
      rw [h2] at t2
      obtain ⟨A', n', c', zs, rfl, hz, hn', hw⟩ := ints_of h3 h4 h5 t2 l2
      simp at e0 e1
      subst e0 e1
      exact ⟨⟨p, q, zs⟩, ⟨c0, c1, A', n', c', c2, hz⟩, w0, w1, by have := hz.len; show zs.length ≤ _; omega, hw⟩)
    refine ⟨_, n, c, cs, rfl, ⟨hl, fun _ => ⟨b, off, rfl, hb, fun k c hk => (hcs k c hk).1⟩⟩, hn, fun c hc => ?_⟩
    obtain ⟨k, hk⟩ := List.getElem?_of_mem hc
    exact (hcs k c hk).2
  · have : n = 0 := by omega
    subst this
    exact ⟨A, 0, c, [], rfl, ⟨rfl, fun h => absurd h (by omega)⟩, hn, by simp⟩
end

end Go.Proofs.YtlpgldejmdiceabDoor.opn
end

section
namespace Go.Proofs.YtlpgldejmdiceabDoor.only
set_option linter.unusedVariables false
open kit
open Go.RowKit

structure Only (lo hi : Nat) (w w' : World) : Prop where
  os : w'.os = w.os
  tape : w'.tape = w.tape
  output : w'.output = w.output
  size : w.heap.size ≤ w'.heap.size
  block : ∀ k, k < w.heap.size → (k < lo ∨ hi ≤ k) → w'.heap[k]? = w.heap[k]?
  rows : ∀ b t n, (∃ f, w.rowIs b t n f) → ∃ f, w'.rowIs b t n f

theorem Only.refl (lo hi : Nat) (w : World) : Only lo hi w w := ⟨rfl, rfl, rfl, Nat.le_refl _, fun _ _ _ => rfl, fun _ _ _ h => h⟩
theorem Only.trans {lo hi : Nat} {a b c : World} (h : Only lo hi a b) (k : Only lo hi b c) : Only lo hi a c :=
  ⟨k.os.trans h.os, k.tape.trans h.tape, k.output.trans h.output, Nat.le_trans h.size k.size, fun i hi h' => (k.block i (Nat.lt_of_lt_of_le hi h.size) h').trans (h.block i hi h'), fun b t n hr => k.rows b t n (h.rows b t n hr)⟩
theorem Only.of_below {lo hi : Nat} {w w' : World} (h : Below w.heap.size w w') : Only lo hi w w' :=
  ⟨h.os, h.tape, h.output, h.size, fun k hk _ => h.block k hk, fun b t n ⟨f, hf⟩ => ⟨f, hf.of_block (h.block b hf.lt)⟩⟩
theorem Only.set {lo hi : Nat} (w : World) {g : Nat} (h1 : lo ≤ g) (h2 : g < hi) (o : Nat) (u : Value) : Only lo hi w (w.setCell ⟨g, o, none⟩ u) :=
  ⟨rfl, rfl, rfl, by simp [World.setCell], fun k _ hk => Below.heap_setCell _ _ _ _ (by show k ≠ g; omega), fun b t n ⟨f, hf⟩ => by
    by_cases e : b = g
    · subst e; exact ⟨_, hf.set o u⟩
    · exact ⟨f, hf.setOther (a := ⟨g, o, none⟩) e u⟩⟩
theorem Only.wide {lo hi lo' hi' : Nat} {w w' : World} (h : Only lo hi w w') (h1 : lo' ≤ lo) (h2 : hi ≤ hi') : Only lo' hi' w w' :=
  ⟨h.os, h.tape, h.output, h.size, fun k hk h' => h.block k hk (by omega), h.rows⟩
theorem rowIs_uniq {w : World} {b : Nat} {t t' : TypeId} {n n' : Nat} {f f' : Nat → Value} (h : w.rowIs b t n f) (h' : w.rowIs b t' n' f') : t = t' ∧ n = n' := by
  obtain ⟨c, hb, hn, _⟩ := h
  obtain ⟨c', hb', hn', _⟩ := h'
  rw [hb] at hb'
  simp at hb'
  obtain ⟨rfl, rfl⟩ := hb'
  exact ⟨rfl, hn.symm.trans hn'⟩
theorem Only.of_grown {lo hi : Nat} {w w' : World} {g : Nat} {t : TypeId} {n : Nat} {f f' : Nat → Value} (hg : w.grownBy w' (some g)) (hr : w.rowIs g t n f) (hr' : w'.rowIs g t n f') (h1 : lo ≤ g) (h2 : g < hi) : Only lo hi w w' :=
  ⟨hg.os, hg.tape, hg.output, hg.size, fun k hk h' => hg.block k hk (fun e => by injection e with e; omega), fun b t2 n2 ⟨f2, hf2⟩ => by
    by_cases e : b = g
    · subst e
      obtain ⟨rfl, rfl⟩ := rowIs_uniq hr hf2
      exact ⟨f', hr'⟩
    · exact ⟨f2, hf2.of_block (hg.block b hf2.lt (fun e2 => e (by injection e2)))⟩⟩
/-- below the range it is as it was -/
theorem Only.below {lo hi : Nat} {w w' : World} (h : Only lo hi w w') (hlo : lo ≤ w.heap.size) : Below lo w w' := ⟨h.os, h.tape, h.output, h.size, fun k hk => h.block k (by omega) (.inl hk)⟩
theorem Only.cell {lo hi : Nat} {w w' : World} (h : Only lo hi w w') {p : Addr} (hp : p.block < w.heap.size) (h2 : p.block < lo ∨ hi ≤ p.block) : w'.cell? p = w.cell? p := World.cell?_of_block (w := w) (h.block p.block hp h2)

theorem row_new (w : World) (c : Array Value) (t : TypeId) (m : Nat) (h : c.size = m) : (w.alloc (.cells c t)).rowIs w.heap.size t m (fun i => (c[i]?).getD undef) :=
  ⟨c, (MapKept.heap_alloc w _).1, h, fun i hi => by
    simp [show i < c.size by omega]⟩

/-- three cells of a row put in place -/
def put3 (f : Nat → Value) (k : Nat) (a b c : Value) : Nat → Value := fun i => if i = k * 3 + 2 then c else if i = k * 3 + 1 then b else if i = k * 3 then a else f i
theorem put3_old {f : Nat → Value} {k j : Nat} {a b c : Value} (h : j < k) : put3 f k a b c (j * 3) = f (j * 3) ∧ put3 f k a b c (j * 3 + 1) = f (j * 3 + 1) ∧ put3 f k a b c (j * 3 + 2) = f (j * 3 + 2) := by
  unfold put3
  refine ⟨?_, ?_, ?_⟩ <;> rw [if_neg (by omega), if_neg (by omega), if_neg (by omega)]
theorem put3_new {f : Nat → Value} {k : Nat} {a b c : Value} : put3 f k a b c (k * 3) = a ∧ put3 f k a b c (k * 3 + 1) = b ∧ put3 f k a b c (k * 3 + 2) = c := by
  unfold put3
  exact ⟨by rw [if_neg (by omega), if_neg (by omega), if_pos rfl], by rw [if_neg (by omega), if_pos rfl], if_pos rfl⟩
theorem put3_row {w : World} {b : Nat} {t : TypeId} {n : Nat} {f : Nat → Value} (h : w.rowIs b t n f) (k : Nat) (x y z : Value) :
    (((w.setCell ⟨b, k * 3, none⟩ x).setCell ⟨b, k * 3 + 1, none⟩ y).setCell ⟨b, k * 3 + 2, none⟩ z).rowIs b t n (put3 f k x y z) := ((h.set (k * 3) x).set (k * 3 + 1) y).set (k * 3 + 2) z
theorem put3_below {B : Nat} {a w : World} {b : Nat} (h : Below B a w) (hB : B ≤ b) (k : Nat) (x y z : Value) : Below B a (((w.setCell ⟨b, k * 3, none⟩ x).setCell ⟨b, k * 3 + 1, none⟩ y).setCell ⟨b, k * 3 + 2, none⟩ z) :=
  ((h.setCell (p := ⟨b, k * 3, none⟩) hB x).setCell (p := ⟨b, k * 3 + 1, none⟩) hB y).setCell (p := ⟨b, k * 3 + 2, none⟩) hB z
/-- two cells -/
def put2 (f : Nat → Value) (k : Nat) (a b : Value) : Nat → Value := fun i => if i = k * 2 + 1 then b else if i = k * 2 then a else f i
theorem put2_old {f : Nat → Value} {k j : Nat} {a b : Value} (h : j < k) : put2 f k a b (j * 2) = f (j * 2) ∧ put2 f k a b (j * 2 + 1) = f (j * 2 + 1) := by
  unfold put2
  refine ⟨?_, ?_⟩ <;> rw [if_neg (by omega), if_neg (by omega)]
theorem put2_new {f : Nat → Value} {k : Nat} {a b : Value} : put2 f k a b (k * 2) = a ∧ put2 f k a b (k * 2 + 1) = b := by
  unfold put2
  exact ⟨by rw [if_neg (by omega), if_pos rfl], if_pos rfl⟩
theorem put2_row {w : World} {b : Nat} {t : TypeId} {n : Nat} {f : Nat → Value} (h : w.rowIs b t n f) (k : Nat) (x y : Value) :
    ((w.setCell ⟨b, k * 2, none⟩ x).setCell ⟨b, k * 2 + 1, none⟩ y).rowIs b t n (put2 f k x y) := (h.set (k * 2) x).set (k * 2 + 1) y
theorem put2_below {B : Nat} {a w : World} {b : Nat} (h : Below B a w) (hB : B ≤ b) (k : Nat) (x y : Value) : Below B a ((w.setCell ⟨b, k * 2, none⟩ x).setCell ⟨b, k * 2 + 1, none⟩ y) :=
  (h.setCell (p := ⟨b, k * 2, none⟩) hB x).setCell (p := ⟨b, k * 2 + 1, none⟩) hB y

/-- sums over lists -/
def sumBy {α : Type} (f : α → Nat) : List α → Nat
  | [] => 0
  | x :: r => f x + sumBy f r
theorem sumBy_append {α : Type} (f : α → Nat) (a b : List α) : sumBy f (a ++ b) = sumBy f a + sumBy f b := by
  induction a with
  | nil => simp [sumBy]
  | cons x a ih => simp only [List.cons_append, sumBy, ih]; omega
theorem sumBy_snoc {α : Type} (f : α → Nat) {xs : List α} {k : Nat} {x : α} (h : xs[k]? = some x) : sumBy f (xs.take (k + 1)) = sumBy f (xs.take k) + f x := by
  rw [take_snoc h, sumBy_append]; simp [sumBy]
theorem sumBy_mem {α : Type} (f : α → Nat) {xs : List α} {x : α} (h : x ∈ xs) : f x ≤ sumBy f xs := by
  induction xs with
  | nil => cases h
  | cons y r ih =>
    simp only [sumBy]
    rcases List.mem_cons.1 h with rfl | h
    · omega
    · have := ih h; omega
theorem sumBy_take {α : Type} (f : α → Nat) (xs : List α) (k : Nat) : sumBy f (xs.take k) ≤ sumBy f xs := by
  have := sumBy_append f (xs.take k) (xs.drop k)
  rw [List.take_append_drop] at this
  omega

/-- what a size function of the law tells: a number below 0, or what is left -/
def szP (t : Nat) (left : Int) (w : World) (e : Ending) (w' : World) : Prop :=
  ∃ r : Int, e = .returned (.int .i64 r) ∧ (r < 0 ∨ r = left - (t : Int)) ∧ -1 ≤ r ∧ r ≤ left ∧ Below w.heap.size w w'
end Go.Proofs.YtlpgldejmdiceabDoor.only
end

section
namespace Go.Proofs.YtlpgldejmdiceabDoor.marks
open kit strs only
open Go.RowKit

/-- the mark of a number above 0 -/
def mt (k : Int) : ByteArray := ⟨(109 :: Lib.decDigits k.toNat).toArray⟩

theorem nums_one {d : Int} (h0 : 0 ≤ d) (h1 : d < 10) : strOfNums [48 + d] = ⟨#[UInt8.ofNat (48 + d.toNat)]⟩ := by
  have e : (48 + d).toNat = 48 + d.toNat := by omega
  simp [strOfNums, e]
theorem one_join (b : UInt8) (r : List UInt8) : (ByteArray.mk #[b]) ++ ⟨r.toArray⟩ = ⟨(b :: r).toArray⟩ := by
  apply ByteArray.ext
  simp
theorem conv_one (w : World) (d : Int) (h0 : 0 ≤ d) (h1 : d < 10) :
    (convert 166 9 (.slice (some ⟨w.heap.size, 0, none⟩) 1 1)).run Tryd.prog (w.alloc (.cells #[.int .u8 (48 + d)] 5)) = .ok (.string ⟨#[UInt8.ofNat (48 + d.toNat)]⟩) (w.alloc (.cells #[.int .u8 (48 + d)] 5)) := by
  rw [run_convert_bytes_arg (w.alloc (.cells #[.int .u8 (48 + d)] 5)) 166 5 Tryd.underlying166 Tryd.underlying5 w.heap.size 0 1 1 [48 + d] rfl (fun i hi => by
    obtain rfl : i = 0 := by omega
    simp) 9 Tryd.underlying9, nums_one h0 h1]

theorem only_below {a w w1 : World} {row : Option Nat} (h : a.grownBy w row) (k : Below w.heap.size w w1) : a.grownBy w1 row :=
  ⟨k.os.trans h.os, k.tape.trans h.tape, k.output.trans h.output, Nat.le_trans h.size k.size, fun i hi hne => (k.block i (Nat.lt_of_lt_of_le hi h.size)).trans (h.block i hi hne)⟩
theorem only_set {a w : World} {g : Nat} (h : a.grownBy w (some g)) (o : Nat) (u : Value) : a.grownBy (w.setCell ⟨g, o, none⟩ u) (some g) :=
  ⟨h.os, h.tape, h.output, by simpa [World.setCell] using h.size, fun i hi hne => (Below.heap_setCell w ⟨g, o, none⟩ u i (fun e => hne (by rw [e]))).trans (h.block i hi hne)⟩

/-- what the loop keeps: m is what is left to write, r what has been written -/
def Mid (k m : Int) (r : List UInt8) : Prop := if 0 < m then Lib.decDigits k.toNat = Lib.decDigits m.toNat ++ r else Lib.decDigits k.toNat = r
theorem mid_len {k m : Int} {r : List UInt8} (h : Mid k m r) (hk : k ≤ 16000000) : r.length ≤ 16000001 := by
  have hl := dec_len _ k.toNat (Nat.le_refl _)
  unfold Mid at h
  split at h
  · rw [h, List.length_append] at hl; omega
  · rw [h] at hl; omega
theorem mid_next {k m : Int} {r : List UInt8} (h : Mid k m r) (hm : 0 < m) : Mid k (m / 10) (UInt8.ofNat (48 + (m % 10).toNat) :: r) := by
  unfold Mid at h ⊢
  rw [if_pos hm] at h
  have e1 : (m / 10).toNat = m.toNat / 10 := by omega
  have e2 : (m % 10).toNat = m.toNat % 10 := by omega
  by_cases h10 : m < 10
  · rw [if_neg (by omega), h, dec_small (by omega)]
    have e3 : m.toNat = m.toNat % 10 := by omega
    rw [e2, ← e3]; rfl
  · rw [if_pos (by omega), h, dec_big (by omega), e1, e2]
    simp

/-- the marks from k on -/
def mks (k : Int) (i : Nat) : Value := .string (mt (k + i))

end Go.Proofs.YtlpgldejmdiceabDoor.marks
end

section
namespace Go.Proofs.YtlpgldejmdiceabDoor.eqs
open kit strs
open Go.RowKit

end Go.Proofs.YtlpgldejmdiceabDoor.eqs
end

section
namespace Go.Proofs.YtlpgldejmdiceabDoor.hc
open kit bg opn only marks
set_option linter.unusedVariables false
open Go.ChangeShapes Go.WideShapes Go.ChangeAt Go.RowKit

/-- a number of the answer's own, told as an equation -/
theorem ret_i {k : IntKind} {a b : Int} (h : a = b) : Ending.returned (.int k a) = .returned (.int k b) := by rw [h]

/-- how much a signature takes -/
def ctlsWt (cs : List Ctl) : Nat := cs.length + sumBy (fun c => c.name.size) cs

end Go.Proofs.YtlpgldejmdiceabDoor.hc
end

section
namespace Go.Proofs.YtlpgldejmdiceabDoor.hi
open kit bg opn only marks
open Go.RowKit
set_option linter.unusedVariables false

theorem szI_any (A : Option Addr) (n c : Nat) (left : Int) (w : World) (hl0 : -1 ≤ left) (hl : left ≤ 1048576) (hn : n ≤ maxLen) :
    Calls Tryd.prog 89 #[.slice A n c, .int .i64 left] w (szP n left w) := by
  unfold maxLen at hn
  by_cases h : left - (n : Int) < 0
  · go_enter Tryd.func89, Tryd.ntmps89
    go_wp2
    go_ret
    exact ⟨-1, rfl, .inl (by omega), by omega, by omega, Below.refl _ _⟩
  · have h' : 0 ≤ left - (n : Int) := by omega
    go_enter Tryd.func89, Tryd.ntmps89
    go_wp2
    go_ret
    exact ⟨left - n, rfl, .inr rfl, by omega, by omega, Below.refl _ _⟩

theorem int_info : (Tryd.prog.info? 3).map (fun i => (i.zero, i.size, i.bytes)) = some (some (.int .i64 0), 1, 8) := by kernel_rfl
/-- the k-th of these numbers, as a cell -/
def iat (zs : List Int) (i : Nat) : Value := .int .i64 (zs.getD i 0)
theorem iat_of {zs : List Int} {k : Nat} {z : Int} (h : zs[k]? = some z) : iat zs k = .int .i64 z := by simp [iat, List.getD, h]

set_option maxHeartbeats 800000 in
theorem toIS_any (A : Option Addr) (n c : Nat) (zs : List Int) (w : World) (h : IntsAt w w.heap.size A n zs) (hn : n ≤ 1048576) :
    Calls Tryd.prog 13 #[.slice A n c] w fun e w' => e = .returned (.slice (some ⟨w.heap.size, 0, none⟩) n n) ∧ w'.rowIs w.heap.size 3 n (iat zs) ∧ Below w.heap.size w w' := by
  have hmk := fun W => run_make_row' (P := Tryd.prog) 22 3 (.int .i64 0) 8 Tryd.underlying22 int_info rfl .i64 .i64 n (by omega) (by omega) W
  go_enter Tryd.func13, Tryd.ntmps13
  go_wp2
  clear hmk
  go_loopw [4] (fun i wr => ∃ k : Nat, k ≤ n ∧ i = .int .i64 k ∧ wr.rowIs w.heap.size 3 n (fun j => if j < k then iat zs j else .int .i64 0) ∧ Below w.heap.size w wr) (fun i _ => n - (intOf i).toNat)
  case atStart => exact ⟨0, Nat.zero_le _, rfl, (World.rowIs_made w (.int .i64 0) n 3).congr (fun _ _ => by simp), (Below.refl _ _).alloc (Nat.le_refl _) _⟩
  case round =>
    obtain ⟨k, hk, rfl, hrow, hbel⟩ := hrel
    have hlt := hrow.lt
    by_cases hkn : k < n
    · obtain ⟨b, off, s, rfl, hb, hsk, hc⟩ := h.get hkn
      have hcell : wr.cell? ⟨b, off + k, none⟩ = some (.int .i64 s) := (hbel.cell (p := ⟨b, off + k, none⟩) hb).trans hc
      have hcell2 := hrow.cell hkn
      have hfz := hrow.frozen k
      have HA : Hid (iat zs k = .int .i64 s) := Lib.hid (iat_of hsk)
      have HR := Lib.hid (hrow.set k (.int .i64 s))
      have HB := Lib.hid (hbel.setCell (p := ⟨w.heap.size, k, none⟩) (Nat.le_refl _) (.int .i64 s))
      clear hrow hbel hsk hc
      go_wp2
      go_roundw
      case rel =>
        refine ⟨k + 1, by omega, by go_num, HR.out.congr (fun j hj => ?_), HB.out⟩
        show (if j = k then _ else if j < k then _ else _) = if j < k + 1 then _ else _
        by_cases e : j = k
        · subst e; rw [if_pos rfl, if_pos (by omega), HA.out]
        · rw [if_neg e]
          by_cases e2 : j < k
          · rw [if_pos e2, if_pos (by omega)]
          · rw [if_neg e2, if_neg (by omega)]
      case measure => simp [intOf]; omega
    · go_wp2
      go_ret
      exact ⟨rfl, hrow.congr (fun j hj => by show (if j < k then _ else _) = _; rw [if_pos (by omega)]), hbel⟩

theorem toIS_ex (A : Option Addr) (n c : Nat) (zs : List Int) (w : World) (h : IntsAt w w.heap.size A n zs) (hn : n ≤ 1048576) :
    Calls Tryd.prog 13 #[.slice A n c] w fun e w' => ∃ g, e = .returned (.slice (some ⟨g, 0, none⟩) n n) ∧ w.heap.size ≤ g ∧ g < w'.heap.size ∧ w'.rowIs g 3 n (iat zs) ∧ Below w.heap.size w w' :=
  (toIS_any A n c zs w h hn).mono fun e w' ⟨he, hr, hb⟩ => ⟨_, he, Nat.le_refl _, hr.lt, hr, hb⟩

theorem ints_row {w : World} {b B m n : Nat} {t : TypeId} {f : Nat → Value} {zs : List Int} (h : w.rowIs b t m f) (hm : n ≤ m) (hb : b < B) (hl : zs.length = n) (hf : ∀ k, k < n → f k = iat zs k) : IntsAt w B (some ⟨b, 0, none⟩) n zs :=
  SR.of_row2 h hm hb (fun k u hu => by
    rw [List.getElem?_map] at hu
    obtain ⟨z, hz, rfl⟩ := Option.map_eq_some_iff.1 hu
    have hk : k < n := by have := (List.getElem?_eq_some_iff.1 hz).1; omega
    exact ⟨hk, (hf k hk).trans (iat_of hz)⟩) (by simpa using hl)

set_option maxHeartbeats 800000 in
theorem eqIS_any (A A' : Option Addr) (n c c' : Nat) (zs : List Int) (w : World) (B B' : Nat) (h : IntsAt w B A n zs) (h' : IntsAt w B' A' n zs) (hn : n ≤ maxLen) :
    Calls Tryd.prog 15 #[.slice A n c, .slice A' n c'] w fun e w' => e = .returned (.bool true) ∧ Dr w w' := by
  unfold maxLen at hn
  go_enter Tryd.func15, Tryd.ntmps15
  go_wp2_with fail
  go_loopw [5] (fun i wr => ∃ k : Nat, k ≤ n ∧ i = .int .i64 k ∧ Dr w wr) (fun i _ => n - (intOf i).toNat)
  case atStart => exact ⟨0, Nat.zero_le _, rfl, Dr.refl w⟩
  case round =>
    obtain ⟨k, hk, rfl, hdr⟩ := hrel
    by_cases hlt : k < n
    · obtain ⟨b, off, s, rfl, hb, hsk, hc⟩ := h.get hlt
      obtain ⟨b', off', s', rfl, hb', hsk', hc'⟩ := h'.get hlt
      rw [hsk] at hsk'
      injection hsk' with e
      subst e
      have hcell : wr.cell? ⟨b, off + k, none⟩ = some (.int .i64 s) := (hdr.cell _).trans hc
      have hcell' : wr.cell? ⟨b', off' + k, none⟩ = some (.int .i64 s) := (hdr.cell _).trans hc'
      clear hsk hc hc'
      go_wp2_with fail
      go_quiet (fail)
      go_wp2_with fail
      go_roundw
      case rel => exact ⟨k + 1, by omega, by go_num, hdr.more _⟩
      case measure => simp [intOf]; omega
    · go_wp2_with fail
      go_ret
      exact ⟨rfl, hdr⟩

/-- the marks from k on -/
def mki (k : Int) (i : Nat) : Value := .int .i64 (k + i)

set_option maxHeartbeats 1600000 in
theorem markI_any (g n cap : Nat) (f : Nat → Value) (k : Int) (w : World) (hr : w.rowIs g 3 cap f) (hc : n ≤ cap) (h0 : 0 < k) (h1 : k ≤ 8000000) (hn : n ≤ 8000000) :
    Calls Tryd.prog 29 #[.slice (some ⟨g, 0, none⟩) n cap, .int .i64 k] w fun e w' => e = .returned (.int .i64 (k + n)) ∧ w'.rowIs g 3 cap (fun x => if x < n then mki k x else f x) ∧ w.grownBy w' (some g) := by
  go_enter Tryd.func29, Tryd.ntmps29
  go_wp2_with fail
  go_loopw [1, 5] (fun q i wr => ∃ j : Nat, j ≤ n ∧ i = .int .i64 j ∧ q = .int .i64 (k + j) ∧ wr.rowIs g 3 cap (fun x => if x < j then mki k x else f x) ∧ w.grownBy wr (some g)) (fun _ i _ => n - (intOf i).toNat)
  case atStart => exact ⟨0, Nat.zero_le _, rfl, by simp, hr.congr (fun _ _ => by simp), World.grownBy.refl w _⟩
  case round =>
    obtain ⟨j, hj, rfl, rfl, hrow, hgr⟩ := hrel
    by_cases hlt : j < n
    · have hcell := hrow.cell (show j < cap by omega)
      have hfz := hrow.frozen j
      have HRow := Lib.hid (hrow.set j (.int .i64 (k + j)))
      have HG := Lib.hid (only_set hgr j (.int .i64 (k + j)))
      clear hrow hgr
      go_wp2_with fail
      go_roundw
      case rel =>
        refine ⟨j + 1, by omega, by go_num, by go_num, HRow.out.congr (fun x hx => ?_), HG.out⟩
        show (if x = j then _ else if x < j then _ else _) = if x < j + 1 then _ else _
        by_cases e : x = j
        · subst e; rw [if_pos rfl, if_pos (by omega)]; rfl
        · rw [if_neg e]
          by_cases e2 : x < j
          · rw [if_pos e2, if_pos (by omega)]
          · rw [if_neg e2, if_neg (by omega)]
      case measure => simp [intOf]; omega
    · obtain rfl : j = n := by omega
      go_wp2_with fail
      go_ret
      exact ⟨rfl, hrow, hgr⟩

set_option maxHeartbeats 1600000 in
theorem heldI_any (g n cap : Nat) (k : Int) (w : World) (f : Nat → Value) (hr : w.rowIs g 3 cap f) (hf : ∀ x, x < n → f x = mki k x) (hc : n ≤ cap) (h0 : 0 < k) (h1 : k ≤ 8000000) (hn : n ≤ 8000000) :
    Calls Tryd.prog 30 #[.slice (some ⟨g, 0, none⟩) n cap, .int .i64 k] w fun e w' => e = .returned (.int .i64 (k + n)) ∧ Below w.heap.size w w' := by
  have HF := Lib.hid hf
  clear hf
  go_enter Tryd.func30, Tryd.ntmps30
  go_wp2_with fail
  go_loopw [1, 5] (fun q i wr => ∃ j : Nat, j ≤ n ∧ i = .int .i64 j ∧ q = .int .i64 (k + j) ∧ Dr w wr) (fun _ i _ => n - (intOf i).toNat)
  case atStart => exact ⟨0, Nat.zero_le _, rfl, by simp, Dr.refl _⟩
  case round =>
    obtain ⟨j, hj, rfl, rfl, hdr⟩ := hrel
    by_cases hlt : j < n
    · have hcell2 : wr.cell? ⟨g, j, none⟩ = some (.int .i64 (k + j)) := (hdr.cell _).trans ((hr.cell (show j < cap by omega)).trans (by rw [HF.out j hlt]; rfl))
      go_wp2_with fail
      try go_quiet (fail)
      go_wp2_with fail
      go_roundw
      case rel => exact ⟨j + 1, by omega, by go_num, by go_num, by first | exact hdr.more _ | exact hdr⟩
      case measure => simp [intOf]; omega
    · obtain rfl : j = n := by omega
      go_wp2_with fail
      go_ret
      exact ⟨rfl, hdr.below _⟩
end Go.Proofs.YtlpgldejmdiceabDoor.hi
end

section
namespace Go.Proofs.YtlpgldejmdiceabDoor.hw
open kit bg opn only marks hc
open Go.ChangeShapes Go.WideShapes Go.ChangeAt Go.RowKit
set_option linter.unusedVariables false

/-- how much Wires take -/
def wrsWt (cs : List Wr) : Nat := cs.length + sumBy (fun c => c.name.size) cs

end Go.Proofs.YtlpgldejmdiceabDoor.hw
end

section
namespace Go.Proofs.YtlpgldejmdiceabDoor.hn
open kit bg opn only marks hc hi
open Go.ChangeShapes Go.WideShapes Go.ChangeAt Go.RowKit
set_option linter.unusedVariables false

/-- how much nodes take -/
def ndsWt (cs : List Nd) : Nat := cs.length + sumBy (fun c => c.links.length) cs

end Go.Proofs.YtlpgldejmdiceabDoor.hn
end

section
namespace Go.Proofs.YtlpgldejmdiceabDoor.hb
open kit bg opn only marks strs eqs hc hi hw hn
open Go.ChangeShapes Go.WideShapes Go.ChangeAt Go.RowKit
set_option linter.unusedVariables false

/-! ### boxes of six cells -/
theorem row6 {w : World} {β : Nat} {t : TypeId} {f : Nat → Value} (h : w.rowIs β t 6 f) : w.cell? ⟨β, 0, none⟩ = some (f 0) ∧ w.cell? ⟨β, 1, none⟩ = some (f 1) ∧ w.cell? ⟨β, 2, none⟩ = some (f 2) ∧ w.cell? ⟨β, 3, none⟩ = some (f 3) ∧ w.cell? ⟨β, 4, none⟩ = some (f 4) ∧ w.cell? ⟨β, 5, none⟩ = some (f 5) :=
  ⟨h.cell (by omega), h.cell (by omega), h.cell (by omega), h.cell (by omega), h.cell (by omega), h.cell (by omega)⟩
/-- the content of six cells -/
def six (a b c d e f : Value) (i : Nat) : Value := if i = 0 then a else if i = 1 then b else if i = 2 then c else if i = 3 then d else if i = 4 then e else f
theorem six_new (w : World) (a b c d e f : Value) (t : TypeId) : (w.alloc (.cells #[a, b, c, d, e, f] t)).rowIs w.heap.size t 6 (six a b c d e f) :=
  (row_new w #[a, b, c, d, e, f] t 6 rfl).congr (fun i hi => by
    match i, hi with
    | 0, _ => rfl
    | 1, _ => rfl
    | 2, _ => rfl
    | 3, _ => rfl
    | 4, _ => rfl
    | 5, _ => rfl)

/-- how much a Bigraph takes -/
def bigWt (b : Big) : Nat := ndsWt b.nodes + b.sites.length + (b.outer.length + tot b.outer) + wrsWt b.inner

theorem below_box {w w1 : World} {o : Obj} (hb : Below (w.alloc o).heap.size (w.alloc o) w1) : Below w.heap.size w w1 := ((Below.refl w.heap.size w).alloc (Nat.le_refl _) o).trans (hb.mono (by simp))

/-- a Bigraph whose slices are no longer than slices can be -/
def BigLn (b : Big) : Prop := b.nodes.length ≤ maxLen ∧ (∀ x ∈ b.nodes, x.links.length ≤ maxLen) ∧ b.sites.length ≤ maxLen ∧ b.inner.length ≤ maxLen
theorem bigLn_of {b : Big} (h : BigW b) : BigLn b := ⟨h.2.2.1, fun x hx => (h.2.2.2.1 x hx).2.2.1, h.2.2.2.2.1, h.2.2.2.2.2.2.2.2.1⟩

end Go.Proofs.YtlpgldejmdiceabDoor.hb
end

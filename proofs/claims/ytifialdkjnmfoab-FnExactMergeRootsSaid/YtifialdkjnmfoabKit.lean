/- Words of mine for what is read and what a call made: a slice that reads as a list, nil let in; a row of the call's own; the row's last step where the world is known below the old heap alone. -/
import Derived.Test.YtifialdkjnmfoabRows
import Derived.WalkKit
import Derived.WalkSpells
import Derived.WalkLawsBesides
import Derived.ProofKit
import Derived.OpenShut
import Derived.ShutString
import Derived.Deep.OwnRows
import Derived.Deep.Draws
import Derived.SliceStrings
import Derived.ChangeOld
import Derived.Below
import Derived.Lib.Hide
import Derived.Lib.ItoaNum
namespace Go.Proofs.Ytifialdkjnmfoab.kit
open Go.ChangeShapes Go.WideShapes Go.ChangeAt Go.RowKit

/-- In world w the slice (A, n) reads as xs, below block B; one cell an element; nil where n is 0 is let in. -/
def SR (w : World) (B : Nat) (A : Option Addr) (n : Nat) (xs : List Value) : Prop :=
  xs.length = n ∧ (0 < n → ∃ b off, A = some ⟨b, off, none⟩ ∧ b < B ∧ ∀ k u, xs[k]? = some u → w.cell? ⟨b, off + k, none⟩ = some u)

section
variable {w w' : World} {B B' n : Nat} {A : Option Addr} {xs : List Value}
theorem SR.len (h : SR w B A n xs) : xs.length = n := h.1
theorem SR.nil_ : SR w B A 0 [] := ⟨rfl, fun h => absurd h (by omega)⟩
theorem SR.get {k : Nat} (h : SR w B A n xs) (hk : k < n) : ∃ b off u, A = some ⟨b, off, none⟩ ∧ b < B ∧ xs[k]? = some u ∧ w.cell? ⟨b, off + k, none⟩ = some u := by
  obtain ⟨b, off, e, hb, hc⟩ := h.2 (by omega)
  have hx : xs[k]? = some (xs[k]'(by have := h.1; omega)) := List.getElem?_eq_getElem _
  exact ⟨b, off, _, e, hb, hx, hc k _ hx⟩
theorem SR.str {k : Nat} {ss : List ByteArray} (h : SR w B A n (ss.map Value.string)) (hk : k < n) : ∃ b off s, A = some ⟨b, off, none⟩ ∧ b < B ∧ ss[k]? = some s ∧ w.cell? ⟨b, off + k, none⟩ = some (.string s) := by
  obtain ⟨b, off, u, e, hb, hx, hc⟩ := h.get hk
  rw [List.getElem?_map] at hx
  obtain ⟨s, hs, rfl⟩ := Option.map_eq_some_iff.1 hx
  exact ⟨b, off, s, e, hb, hs, hc⟩
theorem SR.strlen {ss : List ByteArray} (h : SR w B A n (ss.map Value.string)) : ss.length = n := by simpa using h.1
theorem SR.move (h : SR w B A n xs) (hk : ∀ p : Addr, p.block < B → w'.cell? p = w.cell? p) : SR w' B A n xs :=
  ⟨h.1, fun hn => by
    obtain ⟨b, off, e, hb, hc⟩ := h.2 hn
    exact ⟨b, off, e, hb, fun k u hu => (hk _ hb).trans (hc k u hu)⟩⟩
theorem SR.wide (h : SR w B A n xs) (hB : B ≤ B') : SR w B' A n xs :=
  ⟨h.1, fun hn => by
    obtain ⟨b, off, e, hb, hc⟩ := h.2 hn
    exact ⟨b, off, e, by omega, hc⟩⟩
theorem SR.below (h : SR w B A n xs) (hb : Below B w w') : SR w' B A n xs := h.move fun _ hp => hb.cell hp
theorem SR.of_row2 {b m : Nat} {t : TypeId} {f : Nat → Value} (h : w.rowIs b t m f) (hm : n ≤ m) (hb : b < B) (hx : ∀ k u, xs[k]? = some u → k < n ∧ f k = u) (hl : xs.length = n) : SR w B (some ⟨b, 0, none⟩) n xs :=
  ⟨hl, fun _ => ⟨b, 0, rfl, hb, fun k u hu => by
    obtain ⟨hk, e⟩ := hx k u hu
    rw [Nat.zero_add, h.cell (show k < m by omega), e]⟩⟩
theorem SR.of_row {b : Nat} {t : TypeId} {f : Nat → Value} (h : w.rowIs b t n f) (hb : b < B) (hx : ∀ k u, xs[k]? = some u → k < n ∧ f k = u) (hl : xs.length = n) : SR w B (some ⟨b, 0, none⟩) n xs :=
  ⟨hl, fun _ => ⟨b, 0, rfl, hb, fun k u hu => by
    obtain ⟨hk, e⟩ := hx k u hu
    rw [Nat.zero_add, h.cell hk, e]⟩⟩
end

theorem take_snoc {α : Type} {ss : List α} {k : Nat} {s : α} (h : ss[k]? = some s) : ss.take (k + 1) = ss.take k ++ [s] := by
  rw [List.take_add_one, h]; rfl
theorem dec_small {n : Nat} (h : n < 10) : Lib.decDigits n = [UInt8.ofNat (48 + n)] := by
  rw [Lib.decDigits, dif_pos h]
theorem dec_big {n : Nat} (h : ¬ n < 10) : Lib.decDigits n = Lib.decDigits (n / 10) ++ [UInt8.ofNat (48 + n % 10)] := by
  rw [Lib.decDigits, dif_neg h]
theorem dec_len (N : Nat) : ∀ n : Nat, n ≤ N → (Lib.decDigits n).length ≤ n + 1 := by
  induction N with
  | zero => intro n h; rw [dec_small (by omega)]; simp
  | succ N ih =>
    intro n h
    by_cases h10 : n < 10
    · rw [dec_small h10]; simp
    · rw [dec_big h10, List.length_append, List.length_singleton]
      have := ih (n / 10) (by omega)
      omega
theorem below_drewN {B : Nat} {a w : World} (h : Below B a w) (n : Nat) : Below B a (w.drewN n) := ⟨h.os, h.tape, h.output, h.size, h.block⟩

/-- w' is w behind some draws -/
def Dr (w w' : World) : Prop := ∃ m, w' = w.drewN m
theorem Dr.refl (w : World) : Dr w w := ⟨0, rfl⟩
theorem Dr.more {w w' : World} (h : Dr w w') (n : Nat) : Dr w (w'.drewN n) := by
  obtain ⟨m, rfl⟩ := h
  exact ⟨m + n, by rw [World.drewN_drewN]⟩
theorem Dr.cell {w w' : World} (h : Dr w w') (a : Addr) : w'.cell? a = w.cell? a := by
  obtain ⟨m, rfl⟩ := h
  rfl
theorem Dr.size {w w' : World} (h : Dr w w') : w'.heap.size = w.heap.size := by
  obtain ⟨m, rfl⟩ := h
  rfl
theorem Dr.trans {a b c : World} (h : Dr a b) (k : Dr b c) : Dr a c := by
  obtain ⟨m, rfl⟩ := k
  exact h.more m
theorem Dr.below {w w' : World} (h : Dr w w') (B : Nat) : Below B w w' := by
  obtain ⟨m, rfl⟩ := h
  exact below_drewN (Below.refl _ _) m

section
variable {H : Type} {enc : TypeId × Value → H} {P : Program}
/-- an argument of strings, as the walk wants it -/
theorem sr_strings {W : World} {t e : TypeId} {a0 : Option Addr} {n c : Nat} {d : DataW H} {p : List MemPlace} (ht : P.underlying t = some (.slice e)) (he : P.underlying e = some .string) (hc : P.cellsOf e = 1)
    (h : DataW.Trod enc P W 0 (fun _ => true) true t (.slice a0 n c) d p) (hlt : ∀ x ∈ p, x.block < W.heap.size) : ∃ ss : List ByteArray, SR W W.heap.size a0 n (ss.map Value.string) ∧ n ≤ maxLen ∧ ∀ s ∈ ss, s.size ≤ maxLen := by
  obtain ⟨fuel, hf⟩ := h
  rcases open_strings ht he hc hf with ⟨hcs, _⟩ | ⟨a, l, c', ss, hcs, _, hl, hm, hz, hx, hcell, hws⟩
  · simp [Value.cells] at hcs
    obtain ⟨rfl, rfl, rfl⟩ := hcs
    exact ⟨[], SR.nil_, by simp, by simp⟩
  · simp [Value.cells] at hcs
    obtain ⟨rfl, rfl, rfl⟩ := hcs
    simp only [if_true] at hz
    have hp : p = MemPlace.row a ss.length := (Prod.mk.inj hx).2
    refine ⟨ss.take n, ⟨by simp; omega, fun hn => ?_⟩, by omega, fun s hs => hws s (List.mem_of_mem_take hs)⟩
    obtain ⟨b, off, spot⟩ := a
    have hspot : spot = none := by simpa [Addr.add] using World.cell?_spot (hcell 0 (by omega))
    subst hspot
    have hb : b < W.heap.size := by
      have := hlt (.cell b (off + 0)) (by rw [hp]; exact MemPlace.mem_row.2 ⟨0, by omega, rfl⟩)
      exact this
    refine ⟨b, off, rfl, hb, fun k u hu => ?_⟩
    rw [List.getElem?_map] at hu
    obtain ⟨s, hs, rfl⟩ := Option.map_eq_some_iff.1 hu
    have hk : k < n := by
      have := (List.getElem?_eq_some_iff.1 hs).1
      simp at this
      omega
    have hs' : ss[k]? = some s := by rwa [List.getElem?_take_of_lt hk] at hs
    rw [← Go.WideShapes.add_plain, hcell k (by omega)]
    simp [List.getD, hs']

/-- a slice of integers that came in -/
def SRB (k : IntKind) (W : World) (A : Option Addr) (n : Nat) (zs : List Int) : Prop := SR W W.heap.size A n (zs.map (Value.int k)) ∧ n ≤ maxLen ∧ ∀ z ∈ zs, (Lit.int k z).wf = true
theorem sr_ints {k : IntKind} {W : World} {t e : TypeId} {a0 : Option Addr} {n c : Nat} {d : DataW H} {p : List MemPlace} (ht : P.underlying t = some (.slice e)) (he : P.underlying e = some (.int k)) (hc : P.cellsOf e = 1)
    (h : DataW.Trod enc P W 0 (fun _ => true) true t (.slice a0 n c) d p) (hlt : ∀ x ∈ p, x.block < W.heap.size) : ∃ zs : List Int, SRB k W a0 n zs := by
  obtain ⟨fuel, hf⟩ := h
  rcases open_ints ht he hc hf with ⟨hcs, _⟩ | ⟨a, l, c', zs, hcs, _, hl, hm, hz, hx, hcell, hws⟩
  · simp [Value.cells] at hcs
    obtain ⟨rfl, rfl, rfl⟩ := hcs
    exact ⟨[], SR.nil_, by simp, by simp⟩
  · simp [Value.cells] at hcs
    obtain ⟨rfl, rfl, rfl⟩ := hcs
    simp only [if_true] at hz
    have hp : p = MemPlace.row a zs.length := (Prod.mk.inj hx).2
    refine ⟨zs.take n, ⟨by simp; omega, fun hn => ?_⟩, by omega, fun z hz => hws z (List.mem_of_mem_take hz)⟩
    obtain ⟨b, off, rfl, hat⟩ := ints_at hcell (by omega)
    have hb : b < W.heap.size := by
      have := hlt (.cell b (off + 0)) (by rw [hp]; exact MemPlace.mem_row.2 ⟨0, by omega, rfl⟩)
      exact this
    refine ⟨b, off, rfl, hb, fun j u hu => ?_⟩
    rw [List.getElem?_map] at hu
    obtain ⟨z, hz2, rfl⟩ := Option.map_eq_some_iff.1 hu
    have hj : j < n := by
      have := (List.getElem?_eq_some_iff.1 hz2).1
      simp at this
      omega
    have hz' : zs[j]? = some z := by rwa [List.getElem?_take_of_lt hj] at hz2
    rw [hat j (by omega)]
    simp [List.getD, hz']
theorem SRB.bytes {W : World} {A : Option Addr} {n : Nat} {zs : List Int} (h : SRB .u8 W A n zs) : ∀ z ∈ zs, 0 ≤ z ∧ z ≤ 255 := fun z hz => bounds_u8 (h.2.2 z hz)

/-- the row's last step where the world is known below the old heap alone -/
theorem shut_below {f : Func} {s : ChangeSpec} {apart fresh handsOn again : Bool} {W W' : World} {args : Array Value} {v : Value} {ds gs : List (DataW H)} {before pa pv : List MemPlace}
    (hW : DataW.Whole enc P f.params.toList s.vars apart W args.toList ds gs before)
    (hres : ∀ (b : Nat) (sp : Nat → Bool) (hd : Bool), DataW.TrodAll enc P W' b sp hd f.resultTypes.toList (v.resultList f.resultTypes.size) (s.fn H (ds ++ gs)).results [])
    (hargs : ∀ sp : Nat → Bool, (∀ p ∈ before, sp p.block = true) → DataW.TrodAll enc P W' 0 sp true f.params.toList args.toList (s.fn H (ds ++ gs)).args pa)
    (hvars : ∀ sp : Nat → Bool, (∀ p ∈ before, sp p.block = true) → DataW.TrodVars enc P W' sp s.vars (s.fn H (ds ++ gs)).vars pv)
    (hps : before = pa ++ pv) (hb : Below W.heap.size W W')
    (hok : ∀ (j : Nat) (t : TypeId) (r : Value), f.resultTypes[j]? = some t → (v.resultList f.resultTypes.size)[j]? = some r → Value.okWide P W' .any 0 t r) :
    s.post enc P f apart fresh handsOn again W args v W' := by
  have hlt : ∀ p ∈ before, p.block < W.heap.size := fun p hp => hW.lt p hp
  have hold : ∀ p ∈ before, (fun b => decide (b < W.heap.size)) p.block = true := fun p hp => by simpa using hlt p hp
  refine ⟨ds, gs, before, [], pa, pv, hW, hres _ _ _, hargs _ hold, hvars _ hold, World.keptBut_mono (fun p hp => ⟨hp, ?_⟩) (hb.frame (· ∈ before)), fun _ => ?_⟩
  · rw [hps, List.mem_append] at hp
    exact .inr hp
  · obtain ⟨_, _, _, _, _, hz, hn⟩ := hW
    refine ⟨hok, _, _, ([] ++ pa) ++ pv, ⟨[] ++ pa, pv, trodAll_append (hargs _ (fun _ _ => rfl)) (hres _ _ _), hvars _ (fun _ _ => rfl), rfl, ?_, ?_⟩, ?_⟩
    · intro b off hp
      have hin : MemPlace.cell b off ∈ before := by rw [hps]; simpa using hp
      rw [hb.frozen (hlt _ hin)]
      exact hz b off hin
    · intro ha
      have := hn ha
      rw [hps] at this
      simpa using this
    · intro p hp _
      rw [hps]
      simpa using hp
end
end Go.Proofs.Ytifialdkjnmfoab.kit

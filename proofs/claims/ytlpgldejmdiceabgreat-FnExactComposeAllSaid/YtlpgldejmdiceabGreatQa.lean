/- Kit Strs Big MapB Open Only Mk Es Hc Hi Hw Hn Hb in one. -/
import Derived.Test.YtlpgldejmdiceabGreatRows
import Derived.WalkKit
import Derived.WalkSpells
import Derived.WalkLawsBesides
import Derived.ProofKit
import Derived.OpenShut
import Derived.ShutString
import Derived.Deep.OwnRows
import Derived.Deep.Draws
import Derived.SliceStrings
import Derived.ChangeOld
import Derived.Below
import Derived.Lib.Hide
import Derived.Lib.ItoaNum
import Derived.Maps.OwnOps
import Derived.Maps.OwnIn
import Derived.Maps.Views
import Derived.Deep.Slices
import Derived.Deep.Fields
import Derived.ChangeSame
import Derived.Lib.SmallJoins
import Derived.Deep.RegionHeld3
import Derived.Deep.RegionWith
import Derived.Deep.QuietTactic
import Derived.BigQuiet
import Derived.Outline
import Derived.StillTailTactics
set_option linter.unusedSimpArgs false
section
namespace Go.Proofs.YtlpgldejmdiceabGreat.kit
open Go.ChangeShapes Go.WideShapes Go.ChangeAt Go.RowKit

/-- In world w the slice (A, n) reads as xs, below block B; one cell an element; nil where n is 0 is let in. -/
def SR (w : World) (B : Nat) (A : Option Addr) (n : Nat) (xs : List Value) : Prop :=
  xs.length = n ∧ (0 < n → ∃ b off, A = some ⟨b, off, none⟩ ∧ b < B ∧ ∀ k u, xs[k]? = some u → w.cell? ⟨b, off + k, none⟩ = some u)

section
variable {w w' : World} {B B' n : Nat} {A : Option Addr} {xs : List Value}
theorem SR.len (h : SR w B A n xs) : xs.length = n := h.1
theorem SR.nil_ : SR w B A 0 [] := ⟨rfl, fun h => absurd h (by omega)⟩
theorem SR.get {k : Nat} (h : SR w B A n xs) (hk : k < n) : ∃ b off u, A = some ⟨b, off, none⟩ ∧ b < B ∧ xs[k]? = some u ∧ w.cell? ⟨b, off + k, none⟩ = some u := by
  obtain ⟨b, off, e, hb, hc⟩ := h.2 (by omega)
  have hx : xs[k]? = some (xs[k]'(by have := h.1; omega)) := List.getElem?_eq_getElem _
  exact ⟨b, off, _, e, hb, hx, hc k _ hx⟩
theorem SR.str {k : Nat} {ss : List ByteArray} (h : SR w B A n (ss.map Value.string)) (hk : k < n) : ∃ b off s, A = some ⟨b, off, none⟩ ∧ b < B ∧ ss[k]? = some s ∧ w.cell? ⟨b, off + k, none⟩ = some (.string s) := by
  obtain ⟨b, off, u, e, hb, hx, hc⟩ := h.get hk
  rw [List.getElem?_map] at hx
  obtain ⟨s, hs, rfl⟩ := Option.map_eq_some_iff.1 hx
  exact ⟨b, off, s, e, hb, hs, hc⟩
theorem SR.strlen {ss : List ByteArray} (h : SR w B A n (ss.map Value.string)) : ss.length = n := by simpa using h.1
theorem SR.move (h : SR w B A n xs) (hk : ∀ p : Addr, p.block < B → w'.cell? p = w.cell? p) : SR w' B A n xs :=
  ⟨h.1, fun hn => by
    obtain ⟨b, off, e, hb, hc⟩ := h.2 hn
    exact ⟨b, off, e, hb, fun k u hu => (hk _ hb).trans (hc k u hu)⟩⟩
theorem SR.wide (h : SR w B A n xs) (hB : B ≤ B') : SR w B' A n xs :=
  ⟨h.1, fun hn => by
    obtain ⟨b, off, e, hb, hc⟩ := h.2 hn
    exact ⟨b, off, e, by omega, hc⟩⟩
theorem SR.below (h : SR w B A n xs) (hb : Below B w w') : SR w' B A n xs := h.move fun _ hp => hb.cell hp
theorem SR.of_row2 {b m : Nat} {t : TypeId} {f : Nat → Value} (h : w.rowIs b t m f) (hm : n ≤ m) (hb : b < B) (hx : ∀ k u, xs[k]? = some u → k < n ∧ f k = u) (hl : xs.length = n) : SR w B (some ⟨b, 0, none⟩) n xs :=
  ⟨hl, fun _ => ⟨b, 0, rfl, hb, fun k u hu => by
    obtain ⟨hk, e⟩ := hx k u hu
    rw [Nat.zero_add, h.cell (show k < m by omega), e]⟩⟩
theorem SR.of_row {b : Nat} {t : TypeId} {f : Nat → Value} (h : w.rowIs b t n f) (hb : b < B) (hx : ∀ k u, xs[k]? = some u → k < n ∧ f k = u) (hl : xs.length = n) : SR w B (some ⟨b, 0, none⟩) n xs :=
  ⟨hl, fun _ => ⟨b, 0, rfl, hb, fun k u hu => by
    obtain ⟨hk, e⟩ := hx k u hu
    rw [Nat.zero_add, h.cell hk, e]⟩⟩
end

theorem take_snoc {α : Type} {ss : List α} {k : Nat} {s : α} (h : ss[k]? = some s) : ss.take (k + 1) = ss.take k ++ [s] := by
  rw [List.take_add_one, h]; rfl
theorem dec_small {n : Nat} (h : n < 10) : Lib.decDigits n = [UInt8.ofNat (48 + n)] := by
  rw [Lib.decDigits, dif_pos h]
theorem dec_big {n : Nat} (h : ¬ n < 10) : Lib.decDigits n = Lib.decDigits (n / 10) ++ [UInt8.ofNat (48 + n % 10)] := by
  rw [Lib.decDigits, dif_neg h]
theorem dec_len (N : Nat) : ∀ n : Nat, n ≤ N → (Lib.decDigits n).length ≤ n + 1 := by
  induction N with
  | zero => intro n h; rw [dec_small (by omega)]; simp
  | succ N ih =>
    intro n h
    by_cases h10 : n < 10
    · rw [dec_small h10]; simp
    · rw [dec_big h10, List.length_append, List.length_singleton]
      have := ih (n / 10) (by omega)
      omega
theorem below_drewN {B : Nat} {a w : World} (h : Below B a w) (n : Nat) : Below B a (w.drewN n) := ⟨h.os, h.tape, h.output, h.size, h.block⟩

/-- w' is w behind some draws -/
def Dr (w w' : World) : Prop := ∃ m, w' = w.drewN m
theorem Dr.refl (w : World) : Dr w w := ⟨0, rfl⟩
theorem Dr.more {w w' : World} (h : Dr w w') (n : Nat) : Dr w (w'.drewN n) := by
  obtain ⟨m, rfl⟩ := h
  exact ⟨m + n, by rw [World.drewN_drewN]⟩
theorem Dr.cell {w w' : World} (h : Dr w w') (a : Addr) : w'.cell? a = w.cell? a := by
  obtain ⟨m, rfl⟩ := h
  rfl
theorem Dr.size {w w' : World} (h : Dr w w') : w'.heap.size = w.heap.size := by
  obtain ⟨m, rfl⟩ := h
  rfl
theorem Dr.trans {a b c : World} (h : Dr a b) (k : Dr b c) : Dr a c := by
  obtain ⟨m, rfl⟩ := k
  exact h.more m
theorem Dr.below {w w' : World} (h : Dr w w') (B : Nat) : Below B w w' := by
  obtain ⟨m, rfl⟩ := h
  exact below_drewN (Below.refl _ _) m

section
variable {H : Type} {enc : TypeId × Value → H} {P : Program}
/-- an argument of strings, as the walk wants it -/
theorem sr_strings {W : World} {t e : TypeId} {a0 : Option Addr} {n c : Nat} {d : DataW H} {p : List MemPlace} (ht : P.underlying t = some (.slice e)) (he : P.underlying e = some .string) (hc : P.cellsOf e = 1)
    (h : DataW.Trod enc P W 0 (fun _ => true) true t (.slice a0 n c) d p) (hlt : ∀ x ∈ p, x.block < W.heap.size) : ∃ ss : List ByteArray, SR W W.heap.size a0 n (ss.map Value.string) ∧ n ≤ maxLen ∧ ∀ s ∈ ss, s.size ≤ maxLen := by
  obtain ⟨fuel, hf⟩ := h
  rcases open_strings ht he hc hf with ⟨hcs, _⟩ | ⟨a, l, c', ss, hcs, _, hl, hm, hz, hx, hcell, hws⟩
  · simp [Value.cells] at hcs
    obtain ⟨rfl, rfl, rfl⟩ := hcs
    exact ⟨[], SR.nil_, by simp, by simp⟩
  · simp [Value.cells] at hcs
    obtain ⟨rfl, rfl, rfl⟩ := hcs
    simp only [if_true] at hz
    have hp : p = MemPlace.row a ss.length := (Prod.mk.inj hx).2
    refine ⟨ss.take n, ⟨by simp; omega, fun hn => ?_⟩, by omega, fun s hs => hws s (List.mem_of_mem_take hs)⟩
    obtain ⟨b, off, spot⟩ := a
    have hspot : spot = none := by simpa [Addr.add] using World.cell?_spot (hcell 0 (by omega))
    subst hspot
    have hb : b < W.heap.size := by
      have := hlt (.cell b (off + 0)) (by rw [hp]; exact MemPlace.mem_row.2 ⟨0, by omega, rfl⟩)
      exact this
    refine ⟨b, off, rfl, hb, fun k u hu => ?_⟩
    rw [List.getElem?_map] at hu
    obtain ⟨s, hs, rfl⟩ := Option.map_eq_some_iff.1 hu
    have hk : k < n := by
      have := (List.getElem?_eq_some_iff.1 hs).1
      simp at this
      omega
    have hs' : ss[k]? = some s := by rwa [List.getElem?_take_of_lt hk] at hs
    rw [← Go.WideShapes.add_plain, hcell k (by omega)]
    simp [List.getD, hs']

/-- a slice of integers that came in -/
def SRB (k : IntKind) (W : World) (A : Option Addr) (n : Nat) (zs : List Int) : Prop := SR W W.heap.size A n (zs.map (Value.int k)) ∧ n ≤ maxLen ∧ ∀ z ∈ zs, (Lit.int k z).wf = true
theorem sr_ints {k : IntKind} {W : World} {t e : TypeId} {a0 : Option Addr} {n c : Nat} {d : DataW H} {p : List MemPlace} (ht : P.underlying t = some (.slice e)) (he : P.underlying e = some (.int k)) (hc : P.cellsOf e = 1)
    (h : DataW.Trod enc P W 0 (fun _ => true) true t (.slice a0 n c) d p) (hlt : ∀ x ∈ p, x.block < W.heap.size) : ∃ zs : List Int, SRB k W a0 n zs := by
  obtain ⟨fuel, hf⟩ := h
  rcases open_ints ht he hc hf with ⟨hcs, _⟩ | ⟨a, l, c', zs, hcs, _, hl, hm, hz, hx, hcell, hws⟩
  · simp [Value.cells] at hcs
    obtain ⟨rfl, rfl, rfl⟩ := hcs
    exact ⟨[], SR.nil_, by simp, by simp⟩
  · simp [Value.cells] at hcs
    obtain ⟨rfl, rfl, rfl⟩ := hcs
    simp only [if_true] at hz
    have hp : p = MemPlace.row a zs.length := (Prod.mk.inj hx).2
    refine ⟨zs.take n, ⟨by simp; omega, fun hn => ?_⟩, by omega, fun z hz => hws z (List.mem_of_mem_take hz)⟩
    obtain ⟨b, off, rfl, hat⟩ := ints_at hcell (by omega)
    have hb : b < W.heap.size := by
      have := hlt (.cell b (off + 0)) (by rw [hp]; exact MemPlace.mem_row.2 ⟨0, by omega, rfl⟩)
      exact this
    refine ⟨b, off, rfl, hb, fun j u hu => ?_⟩
    rw [List.getElem?_map] at hu
    obtain ⟨z, hz2, rfl⟩ := Option.map_eq_some_iff.1 hu
    have hj : j < n := by
      have := (List.getElem?_eq_some_iff.1 hz2).1
      simp at this
      omega
    have hz' : zs[j]? = some z := by rwa [List.getElem?_take_of_lt hj] at hz2
    rw [hat j (by omega)]
    simp [List.getD, hz']
theorem SRB.bytes {W : World} {A : Option Addr} {n : Nat} {zs : List Int} (h : SRB .u8 W A n zs) : ∀ z ∈ zs, 0 ≤ z ∧ z ≤ 255 := fun z hz => bounds_u8 (h.2.2 z hz)

/-- the row's last step where the world is known below the old heap alone -/
theorem shut_below {f : Func} {s : ChangeSpec} {apart fresh handsOn again : Bool} {W W' : World} {args : Array Value} {v : Value} {ds gs : List (DataW H)} {before pa pv : List MemPlace}
    (hW : DataW.Whole enc P f.params.toList s.vars apart W args.toList ds gs before)
    (hres : ∀ (b : Nat) (sp : Nat → Bool) (hd : Bool), DataW.TrodAll enc P W' b sp hd f.resultTypes.toList (v.resultList f.resultTypes.size) (s.fn H (ds ++ gs)).results [])
    (hargs : ∀ sp : Nat → Bool, (∀ p ∈ before, sp p.block = true) → DataW.TrodAll enc P W' 0 sp true f.params.toList args.toList (s.fn H (ds ++ gs)).args pa)
    (hvars : ∀ sp : Nat → Bool, (∀ p ∈ before, sp p.block = true) → DataW.TrodVars enc P W' sp s.vars (s.fn H (ds ++ gs)).vars pv)
    (hps : before = pa ++ pv) (hb : Below W.heap.size W W')
    (hok : ∀ (j : Nat) (t : TypeId) (r : Value), f.resultTypes[j]? = some t → (v.resultList f.resultTypes.size)[j]? = some r → Value.okWide P W' .any 0 t r) :
    s.post enc P f apart fresh handsOn again W args v W' := by
  have hlt : ∀ p ∈ before, p.block < W.heap.size := fun p hp => hW.lt p hp
  have hold : ∀ p ∈ before, (fun b => decide (b < W.heap.size)) p.block = true := fun p hp => by simpa using hlt p hp
  refine ⟨ds, gs, before, [], pa, pv, hW, hres _ _ _, hargs _ hold, hvars _ hold, World.keptBut_mono (fun p hp => ⟨hp, ?_⟩) (hb.frame (· ∈ before)), fun _ => ?_⟩
  · rw [hps, List.mem_append] at hp
    exact .inr hp
  · obtain ⟨_, _, _, _, _, hz, hn⟩ := hW
    refine ⟨hok, _, _, ([] ++ pa) ++ pv, ⟨[] ++ pa, pv, trodAll_append (hargs _ (fun _ _ => rfl)) (hres _ _ _), hvars _ (fun _ _ => rfl), rfl, ?_, ?_⟩, ?_⟩
    · intro b off hp
      have hin : MemPlace.cell b off ∈ before := by rw [hps]; simpa using hp
      rw [hb.frozen (hlt _ hin)]
      exact hz b off hin
    · intro ha
      have := hn ha
      rw [hps] at this
      simpa using this
    · intro p hp _
      rw [hps]
      simpa using hp
end
end Go.Proofs.YtlpgldejmdiceabGreat.kit
end

section
namespace Go.Proofs.YtlpgldejmdiceabGreat.strs
open kit
open Go.ChangeShapes Go.WideShapes Go.ChangeAt Go.RowKit

/-- bytes of all strings together -/
def tot : List ByteArray → Nat
  | [] => 0
  | s :: r => s.size + tot r
theorem tot_append (a b : List ByteArray) : tot (a ++ b) = tot a + tot b := by
  induction a with
  | nil => simp [tot]
  | cons x a ih => simp only [List.cons_append, tot, ih]; omega
theorem tot_snoc {ss : List ByteArray} {k : Nat} {s : ByteArray} (h : ss[k]? = some s) : tot (ss.take (k + 1)) = tot (ss.take k) + s.size := by
  rw [take_snoc h, tot_append]; simp [tot]
theorem tot_take_le (ss : List ByteArray) (k : Nat) : tot (ss.take k) ≤ tot ss := by
  have := tot_append (ss.take k) (ss.drop k)
  rw [List.take_append_drop] at this
  omega

/-- what szStringS tells: a number below 0, or what is left -/
def szPost (ss : List ByteArray) (left : Int) (w : World) (e : Ending) (w' : World) : Prop :=
  ∃ r : Int, e = .returned (.int .i64 r) ∧ (r < 0 ∨ r = left - (ss.length : Int) - (tot ss : Int)) ∧ r ≤ left ∧ w = w'

set_option maxHeartbeats 400000 in
theorem sz_any (A : Option Addr) (n c : Nat) (ss : List ByteArray) (left : Int) (w : World) (B : Nat) (h : SR w B A n (ss.map Value.string)) (hl0 : -1 ≤ left) (hl : left ≤ 1048576) (hn : n ≤ maxLen) (hs : ∀ s ∈ ss, s.size ≤ maxLen) :
    Calls Tryz.prog 44 #[.slice A n c, .int .i64 left] w (szPost ss left w) := by
  have hlen := h.strlen
  unfold maxLen at hn
  have HS : Hid (∀ s ∈ ss, s.size ≤ maxLen) := Lib.hid hs
  have HL : Hid (ss.length = n) := Lib.hid hlen
  clear hs hlen
  by_cases hneg : left - (n : Int) < 0
  · go_enter Tryz.func44, Tryz.ntmps44
    go_wp2
    go_ret
    exact ⟨-1, rfl, .inl (by omega), by omega, rfl⟩
  · have hneg' : ¬ (left - (n : Int) < 0) := hneg
    go_enter Tryz.func44, Tryz.ntmps44
    go_wp2
    go_loop [1, 5] (fun l i => ∃ k : Nat, k ≤ n ∧ i = .int .i64 k ∧ l = .int .i64 (left - n - tot (ss.take k)) ∧ 0 ≤ left - n - tot (ss.take k)) (fun _ i => n - (intOf i).toNat)
    case atStart => exact ⟨0, Nat.zero_le _, rfl, by simp [tot], by simp [tot]; omega⟩
    case round =>
      obtain ⟨k, hk, rfl, rfl, h0⟩ := hrel
      by_cases hlt : k < n
      · obtain ⟨b, off, s, rfl, hb, hsk, hc⟩ := h.str hlt
        have HT : Hid (tot (ss.take (k + 1)) = tot (ss.take k) + s.size) := Lib.hid (tot_snoc hsk)
        have hsz : s.size ≤ 9223372036854775807 := HS.out s (List.mem_of_getElem? hsk)
        have HK : Hid (ss[k]? = some s) := Lib.hid hsk
        clear hsk
        by_cases hfit : left - (n : Int) - tot (ss.take k) - s.size < 0
        · go_wp2
          go_ret
          exact ⟨-1, rfl, .inl (by omega), by omega, rfl⟩
        · have hfit' : 0 ≤ left - (n : Int) - tot (ss.take k) - s.size := by omega
          go_wp2
          go_round
          case rel => exact ⟨k + 1, by omega, by go_num, by rw [HT.out]; go_num, by rw [HT.out]; omega⟩
          case measure => simp [intOf]; omega
      · go_wp2
        go_ret
        have hkn : k = n := by omega
        subst hkn
        refine ⟨left - k - tot (ss.take k), rfl, .inr ?_, by omega, rfl⟩
        rw [List.take_of_length_le (by rw [HL.out]; omega), HL.out]

theorem str_info : (Tryz.prog.info? 9).map (fun i => (i.zero, i.size, i.bytes)) = some (some (.string ⟨#[]⟩), 1, 16) := by kernel_rfl

/-- the k-th of these strings, as a cell -/
def at_ (ss : List ByteArray) (i : Nat) : Value := .string (ss.getD i ⟨#[]⟩)
theorem at_of {ss : List ByteArray} {k : Nat} {s : ByteArray} (h : ss[k]? = some s) : at_ ss k = .string s := by simp [at_, List.getD, h]

/-- what toStringS tells: a new row with the same strings -/
def toPost (ss : List ByteArray) (w : World) (e : Ending) (w' : World) : Prop :=
  ∃ b : Nat, e = .returned (.slice (some ⟨b, 0, none⟩) ss.length ss.length) ∧ w.heap.size ≤ b ∧ b < w'.heap.size ∧ w'.rowIs b 9 ss.length (at_ ss) ∧ Below w.heap.size w w'

set_option maxHeartbeats 800000 in
theorem to_any (A : Option Addr) (n c : Nat) (ss : List ByteArray) (w : World) (h : SR w w.heap.size A n (ss.map Value.string)) (hn : n ≤ 1048576) :
    Calls Tryz.prog 58 #[.slice A n c] w (toPost ss w) := by
  have hlen := h.strlen
  have HL : Hid (ss.length = n) := Lib.hid hlen
  clear hlen
  have hmk := fun W => run_make_row' (P := Tryz.prog) 28 9 (.string ⟨#[]⟩) 16 Tryz.underlying28 str_info rfl .i64 .i64 n (by omega) (by omega) W
  go_enter Tryz.func58, Tryz.ntmps58
  go_wp2
  clear hmk
  go_loopw [4] (fun i wr => ∃ k : Nat, k ≤ n ∧ i = .int .i64 k ∧ wr.rowIs w.heap.size 9 n (fun j => if j < k then at_ ss j else .string ⟨#[]⟩) ∧ Below w.heap.size w wr) (fun i _ => n - (intOf i).toNat)
  case atStart => exact ⟨0, Nat.zero_le _, rfl, (World.rowIs_made w (.string ⟨#[]⟩) n 9).congr (fun _ _ => by simp), (Below.refl _ _).alloc (Nat.le_refl _) _⟩
  case round =>
    obtain ⟨k, hk, rfl, hrow, hbel⟩ := hrel
    have hlt := hrow.lt
    by_cases hkn : k < n
    · obtain ⟨b, off, s, rfl, hb, hsk, hc⟩ := h.str hkn
      have hcell : wr.cell? ⟨b, off + k, none⟩ = some (.string s) := (hbel.cell (p := ⟨b, off + k, none⟩) hb).trans hc
      have hcell2 := hrow.cell hkn
      have hfz := hrow.frozen k
      have HA : Hid (at_ ss k = .string s) := Lib.hid (at_of hsk)
      have hrow2 := hrow.set k (.string s)
      have hbel2 := hbel.setCell (p := ⟨w.heap.size, k, none⟩) (Nat.le_refl _) (.string s)
      have HR := Lib.hid hrow2
      have HB := Lib.hid hbel2
      clear hrow hbel hsk hc hrow2 hbel2
      go_wp2
      go_roundw
      case rel =>
        refine ⟨k + 1, by omega, by go_num, HR.out.congr (fun j hj => ?_), HB.out⟩
        show (if j = k then _ else if j < k then _ else _) = if j < k + 1 then _ else _
        by_cases e : j = k
        · subst e; rw [if_pos rfl, if_pos (by omega), HA.out]
        · rw [if_neg e]
          by_cases e2 : j < k
          · rw [if_pos e2, if_pos (by omega)]
          · rw [if_neg e2, if_neg (by omega)]
      case measure => simp [intOf]; omega
    · go_wp2
      go_ret
      refine ⟨w.heap.size, by rw [HL.out]; rfl, Nat.le_refl _, hlt, ?_, hbel⟩
      rw [HL.out]
      exact hrow.congr (fun j hj => by show (if j < k then _ else _) = _; rw [if_pos (by omega)])
end Go.Proofs.YtlpgldejmdiceabGreat.strs
end

section
namespace Go.Proofs.YtlpgldejmdiceabGreat.bg
open Go.RowKit

structure Ctl where
  name : ByteArray
  ports : Int
  kind : Int
structure Nd where
  control : Int
  parent : Int
  links : List Int
structure Wr where
  name : ByteArray
  link : Int
structure Big where
  roots : Int
  nodes : List Nd
  sites : List Int
  edges : Int
  outer : List ByteArray
  inner : List Wr

/-- a number within bounds -/
def inb (x lo hi : Int) : Bool := decide (lo ≤ x ∧ x ≤ hi)
theorem inb_true {x lo hi : Int} (h : inb x lo hi = true) : lo ≤ x ∧ x ≤ hi := of_decide_eq_true h
theorem inb_false {x lo hi : Int} (h : inb x lo hi = false) : ¬ (lo ≤ x ∧ x ≤ hi) := of_decide_eq_false h
theorem inb_mk {x lo hi : Int} (h : lo ≤ x ∧ x ≤ hi) : inb x lo hi = true := decide_eq_true h
theorem inb_not {x lo hi : Int} (h : ¬ (lo ≤ x ∧ x ≤ hi)) : inb x lo hi = false := decide_eq_false h

theorem str_eq {a b : ByteArray} (h : (a.toList == b.toList) = true) : a = b := by
  have e : a.toList = b.toList := eq_of_beq h
  rw [ByteArray.toList_eq, ByteArray.toList_eq] at e
  exact Go.WideShapes.bytes_inj e
theorem str_ne {a b : ByteArray} (h : (a.toList == b.toList) = false) : a ≠ b := fun e => by
  subst e
  simp at h

/-- a byte of a name -/
def letB (c : UInt8) : Bool := decide (97 ≤ (c.toNat : Int) ∧ (c.toNat : Int) ≤ 122)
def nameB (s : ByteArray) : Bool := s.data.toList.all letB && inb s.size 1 4
def ctlB (c : Ctl) : Bool := nameB c.name && inb c.ports 0 3 && inb c.kind 0 2

def SigP (cs : List Ctl) : Prop :=
  (∀ (k : Nat) c, cs[k]? = some c → ctlB c = true) ∧ (∀ (i j : Nat) a b, j < i → cs[i]? = some a → cs[j]? = some b → b.name ≠ a.name) ∧ inb cs.length 1 6 = true
open Classical in
noncomputable def sigB (cs : List Ctl) : Bool := decide (SigP cs)
open Classical in
theorem sig_true {cs : List Ctl} (h : SigP cs) : sigB cs = true := by unfold sigB; exact decide_eq_true h
open Classical in
theorem sig_false {cs : List Ctl} (h : ¬ SigP cs) : sigB cs = false := by unfold sigB; exact decide_eq_false h
open Classical in
theorem sig_of {cs : List Ctl} (h : sigB cs = true) : SigP cs := by unfold sigB at h; exact of_decide_eq_true h

/-- one string before another -/
def lessB (a b : ByteArray) : Bool := Op.bytesLess a.toList b.toList
/-- names, strictly ascending -/
def NamesP (ss : List ByteArray) : Prop :=
  (∀ (k : Nat) s, ss[k]? = some s → nameB s = true) ∧ (∀ (k : Nat) a b, ss[k]? = some a → ss[k + 1]? = some b → lessB a b = true)

/-- what may be the parent of a place behind the first nodes -/
def underB (cs : List Ctl) (b : Big) (parent below : Int) : Bool :=
  if parent < 0 then inb (-1 - parent) 0 (b.roots - 1)
  else decide (parent < below) && match b.nodes[parent.toNat]? with
    | some nd => match cs[nd.control.toNat]? with
      | some c => c.kind != 2
      | none => false
    | none => false
def linkB (b : Big) (l : Int) : Bool := inb l 0 (b.edges + b.outer.length - 1)
/-- the k-th node may have this Control and this parent -/
def seatB (cs : List Ctl) (b : Big) (k : Nat) (nd : Nd) : Bool := inb nd.control 0 (cs.length - 1) && underB cs b nd.parent k
def portsB (cs : List Ctl) (nd : Nd) : Bool := match cs[nd.control.toNat]? with
  | some c => (nd.links.length : Int) == c.ports
  | none => false
def sizesB (b : Big) : Bool := inb b.roots 0 4 && inb b.edges 0 8 && decide (b.nodes.length ≤ 8) && decide (b.sites.length ≤ 4) && decide (b.outer.length ≤ 16) && decide (b.inner.length ≤ 16)

def BigP (cs : List Ctl) (b : Big) : Prop :=
  SigP cs ∧ sizesB b = true ∧ NamesP b.outer ∧ NamesP (b.inner.map (·.name)) ∧
  (∀ (k : Nat) nd, b.nodes[k]? = some nd → seatB cs b k nd = true ∧ portsB cs nd = true ∧ ∀ (i : Nat) l, nd.links[i]? = some l → linkB b l = true) ∧
  (∀ (i : Nat) p, b.sites[i]? = some p → underB cs b p b.nodes.length = true) ∧
  (∀ (i : Nat) x, b.inner[i]? = some x → linkB b x.link = true)
open Classical in
noncomputable def bigB (cs : List Ctl) (b : Big) : Bool := decide (BigP cs b)
open Classical in
theorem big_true {cs : List Ctl} {b : Big} (h : BigP cs b) : bigB cs b = true := by unfold bigB; exact decide_eq_true h
open Classical in
theorem big_false {cs : List Ctl} {b : Big} (h : ¬ BigP cs b) : bigB cs b = false := by unfold bigB; exact decide_eq_false h
open Classical in
theorem big_of {cs : List Ctl} {b : Big} (h : bigB cs b = true) : BigP cs b := by unfold bigB at h; exact of_decide_eq_true h

/-! ### where they lie in memory -/
def CtlsAt (w : World) (B : Nat) (A : Option Addr) (n : Nat) (cs : List Ctl) : Prop :=
  cs.length = n ∧ (0 < n → ∃ b off, A = some ⟨b, off, none⟩ ∧ b < B ∧ ∀ (k : Nat) c, cs[k]? = some c →
    w.cell? ⟨b, off + k * 3, none⟩ = some (.string c.name) ∧ w.cell? ⟨b, off + k * 3 + 1, none⟩ = some (.int .i64 c.ports) ∧ w.cell? ⟨b, off + k * 3 + 2, none⟩ = some (.int .i64 c.kind))
def WrsAt (w : World) (B : Nat) (A : Option Addr) (n : Nat) (ws : List Wr) : Prop :=
  ws.length = n ∧ (0 < n → ∃ b off, A = some ⟨b, off, none⟩ ∧ b < B ∧ ∀ (k : Nat) x, ws[k]? = some x →
    w.cell? ⟨b, off + k * 2, none⟩ = some (.string x.name) ∧ w.cell? ⟨b, off + k * 2 + 1, none⟩ = some (.int .i64 x.link))
open kit in
def IntsAt (w : World) (B : Nat) (A : Option Addr) (n : Nat) (zs : List Int) : Prop := SR w B A n (zs.map (Value.int .i64))
def NdsAt (w : World) (B : Nat) (A : Option Addr) (n : Nat) (ns : List Nd) : Prop :=
  ns.length = n ∧ (0 < n → ∃ b off, A = some ⟨b, off, none⟩ ∧ b < B ∧ ∀ (k : Nat) x, ns[k]? = some x →
    w.cell? ⟨b, off + k * 3, none⟩ = some (.int .i64 x.control) ∧ w.cell? ⟨b, off + k * 3 + 1, none⟩ = some (.int .i64 x.parent) ∧
    ∃ A' n' c', w.cell? ⟨b, off + k * 3 + 2, none⟩ = some (.slice A' n' c') ∧ IntsAt w B A' n' x.links)

section
variable {w w' : World} {B B' n : Nat} {A : Option Addr}
theorem CtlsAt.get {cs : List Ctl} {k : Nat} (h : CtlsAt w B A n cs) (hk : k < n) : ∃ b off c, A = some ⟨b, off, none⟩ ∧ b < B ∧ cs[k]? = some c ∧
    w.cell? ⟨b, off + k * 3, none⟩ = some (.string c.name) ∧ w.cell? ⟨b, off + k * 3 + 1, none⟩ = some (.int .i64 c.ports) ∧ w.cell? ⟨b, off + k * 3 + 2, none⟩ = some (.int .i64 c.kind) := by
  obtain ⟨b, off, e, hb, hc⟩ := h.2 (by omega)
  have hx : cs[k]? = some (cs[k]'(by have := h.1; omega)) := List.getElem?_eq_getElem _
  obtain ⟨h1, h2, h3⟩ := hc k _ hx
  exact ⟨b, off, _, e, hb, hx, h1, h2, h3⟩
theorem CtlsAt.move {cs : List Ctl} (h : CtlsAt w B A n cs) (hk : ∀ p : Addr, p.block < B → w'.cell? p = w.cell? p) : CtlsAt w' B A n cs :=
  ⟨h.1, fun hn => by
    obtain ⟨b, off, e, hb, hc⟩ := h.2 hn
    refine ⟨b, off, e, hb, fun k c hu => ?_⟩
    obtain ⟨h1, h2, h3⟩ := hc k c hu
    exact ⟨(hk _ hb).trans h1, (hk _ hb).trans h2, (hk _ hb).trans h3⟩⟩
theorem CtlsAt.below {cs : List Ctl} (h : CtlsAt w B A n cs) (hb : Below B w w') : CtlsAt w' B A n cs := h.move fun _ hp => hb.cell hp
theorem CtlsAt.wide {cs : List Ctl} (h : CtlsAt w B A n cs) (hB : B ≤ B') : CtlsAt w B' A n cs :=
  ⟨h.1, fun hn => by
    obtain ⟨b, off, e, hb, hc⟩ := h.2 hn
    exact ⟨b, off, e, by omega, hc⟩⟩
theorem WrsAt.get {cs : List Wr} {k : Nat} (h : WrsAt w B A n cs) (hk : k < n) : ∃ b off c, A = some ⟨b, off, none⟩ ∧ b < B ∧ cs[k]? = some c ∧
    w.cell? ⟨b, off + k * 2, none⟩ = some (.string c.name) ∧ w.cell? ⟨b, off + k * 2 + 1, none⟩ = some (.int .i64 c.link) := by
  obtain ⟨b, off, e, hb, hc⟩ := h.2 (by omega)
  have hx : cs[k]? = some (cs[k]'(by have := h.1; omega)) := List.getElem?_eq_getElem _
  obtain ⟨h1, h2⟩ := hc k _ hx
  exact ⟨b, off, _, e, hb, hx, h1, h2⟩
theorem WrsAt.move {cs : List Wr} (h : WrsAt w B A n cs) (hk : ∀ p : Addr, p.block < B → w'.cell? p = w.cell? p) : WrsAt w' B A n cs :=
  ⟨h.1, fun hn => by
    obtain ⟨b, off, e, hb, hc⟩ := h.2 hn
    refine ⟨b, off, e, hb, fun k c hu => ?_⟩
    obtain ⟨h1, h2⟩ := hc k c hu
    exact ⟨(hk _ hb).trans h1, (hk _ hb).trans h2⟩⟩
theorem WrsAt.below {cs : List Wr} (h : WrsAt w B A n cs) (hb : Below B w w') : WrsAt w' B A n cs := h.move fun _ hp => hb.cell hp
theorem WrsAt.wide {cs : List Wr} (h : WrsAt w B A n cs) (hB : B ≤ B') : WrsAt w B' A n cs :=
  ⟨h.1, fun hn => by
    obtain ⟨b, off, e, hb, hc⟩ := h.2 hn
    exact ⟨b, off, e, by omega, hc⟩⟩
theorem IntsAt.get {zs : List Int} {k : Nat} (h : IntsAt w B A n zs) (hk : k < n) : ∃ b off z, A = some ⟨b, off, none⟩ ∧ b < B ∧ zs[k]? = some z ∧ w.cell? ⟨b, off + k, none⟩ = some (.int .i64 z) := by
  obtain ⟨b, off, u, e, hb, hx, hc⟩ := kit.SR.get h hk
  rw [List.getElem?_map] at hx
  obtain ⟨s, hs, rfl⟩ := Option.map_eq_some_iff.1 hx
  exact ⟨b, off, s, e, hb, hs, hc⟩
theorem IntsAt.len {zs : List Int} (h : IntsAt w B A n zs) : zs.length = n := by simpa using kit.SR.len h
theorem IntsAt.below {zs : List Int} (h : IntsAt w B A n zs) (hb : Below B w w') : IntsAt w' B A n zs := kit.SR.below h hb
theorem IntsAt.move {zs : List Int} (h : IntsAt w B A n zs) (hk : ∀ p : Addr, p.block < B → w'.cell? p = w.cell? p) : IntsAt w' B A n zs := kit.SR.move h hk
theorem IntsAt.wide {zs : List Int} (h : IntsAt w B A n zs) (hB : B ≤ B') : IntsAt w B' A n zs := kit.SR.wide h hB
theorem NdsAt.get {cs : List Nd} {k : Nat} (h : NdsAt w B A n cs) (hk : k < n) : ∃ b off c, A = some ⟨b, off, none⟩ ∧ b < B ∧ cs[k]? = some c ∧
    w.cell? ⟨b, off + k * 3, none⟩ = some (.int .i64 c.control) ∧ w.cell? ⟨b, off + k * 3 + 1, none⟩ = some (.int .i64 c.parent) ∧
    ∃ A' n' c', w.cell? ⟨b, off + k * 3 + 2, none⟩ = some (.slice A' n' c') ∧ IntsAt w B A' n' c.links := by
  obtain ⟨b, off, e, hb, hc⟩ := h.2 (by omega)
  have hx : cs[k]? = some (cs[k]'(by have := h.1; omega)) := List.getElem?_eq_getElem _
  obtain ⟨h1, h2, h3⟩ := hc k _ hx
  exact ⟨b, off, _, e, hb, hx, h1, h2, h3⟩
theorem NdsAt.move {cs : List Nd} (h : NdsAt w B A n cs) (hk : ∀ p : Addr, p.block < B → w'.cell? p = w.cell? p) : NdsAt w' B A n cs :=
  ⟨h.1, fun hn => by
    obtain ⟨b, off, e, hb, hc⟩ := h.2 hn
    refine ⟨b, off, e, hb, fun k c hu => ?_⟩
    obtain ⟨h1, h2, A', n', c', h3, h4⟩ := hc k c hu
    exact ⟨(hk _ hb).trans h1, (hk _ hb).trans h2, A', n', c', (hk _ hb).trans h3, h4.move hk⟩⟩
theorem NdsAt.below {cs : List Nd} (h : NdsAt w B A n cs) (hb : Below B w w') : NdsAt w' B A n cs := h.move fun _ hp => hb.cell hp
theorem NdsAt.wide {cs : List Nd} (h : NdsAt w B A n cs) (hB : B ≤ B') : NdsAt w B' A n cs :=
  ⟨h.1, fun hn => by
    obtain ⟨b, off, e, hb, hc⟩ := h.2 hn
    refine ⟨b, off, e, by omega, fun k c hu => ?_⟩
    obtain ⟨h1, h2, A', n', c', h3, h4⟩ := hc k c hu
    exact ⟨h1, h2, A', n', c', h3, h4.wide hB⟩⟩
end

/-- a Bigraph as a value: what its slices hold lies below block B -/
def BigAt (w : World) (B : Nat) (v : Value) (b : Big) : Prop :=
  ∃ A1 n1 c1 A2 n2 c2 A4 n4 c4 A5 n5 c5, v = .agg #[.int .i64 b.roots, .slice A1 n1 c1, .slice A2 n2 c2, .int .i64 b.edges, .slice A4 n4 c4, .slice A5 n5 c5] ∧
    NdsAt w B A1 n1 b.nodes ∧ IntsAt w B A2 n2 b.sites ∧ kit.SR w B A4 n4 (b.outer.map Value.string) ∧ WrsAt w B A5 n5 b.inner
section
variable {w w' : World} {B B' : Nat} {v : Value} {b : Big}
theorem BigAt.move (h : BigAt w B v b) (hk : ∀ p : Addr, p.block < B → w'.cell? p = w.cell? p) : BigAt w' B v b := by
  obtain ⟨A1, n1, c1, A2, n2, c2, A4, n4, c4, A5, n5, c5, e, h1, h2, h4, h5⟩ := h
  exact ⟨A1, n1, c1, A2, n2, c2, A4, n4, c4, A5, n5, c5, e, h1.move hk, h2.move hk, h4.move hk, h5.move hk⟩
theorem BigAt.below (h : BigAt w B v b) (hb : Below B w w') : BigAt w' B v b := h.move fun _ hp => hb.cell hp
theorem BigAt.wide (h : BigAt w B v b) (hB : B ≤ B') : BigAt w B' v b := by
  obtain ⟨A1, n1, c1, A2, n2, c2, A4, n4, c4, A5, n5, c5, e, h1, h2, h4, h5⟩ := h
  exact ⟨A1, n1, c1, A2, n2, c2, A4, n4, c4, A5, n5, c5, e, h1.wide hB, h2.wide hB, h4.wide hB, h5.wide hB⟩
end
end Go.Proofs.YtlpgldejmdiceabGreat.bg
end

section
namespace Go.Proofs.YtlpgldejmdiceabGreat.mapb
open Go.Maps (Keyed)
open Go.RowKit

theorem plainElem_bool_inv {H : Type} {P : Program} {e : TypeId} (he : P.underlying e = some .bool) {v : Value} {z : DataW H × List MemPlace} (h : plainElem P e v = some z) : ∃ x, v = .bool x ∧ z = (.lit (.bool x), []) := by
  unfold plainElem at h
  rw [he] at h
  cases v <;> simp at h
  obtain rfl := h
  exact ⟨_, rfl, rfl⟩

/-- block b is a map of at most n entries, and looking a key up in it gives true just for the keys in S -/
def SetAt (P : Program) (k e : TypeId) (w : World) (b n : Nat) (S : Lit → Prop) : Prop :=
  ∃ D : DataW Unit, w.ownsMap P k (plainElem P e) b n D ∧ Maps.IsMap D ∧ ∀ kl, WideAt.IsKeyLit kl → ∃ x, D.atKey kl (.lit (.bool false)) = .lit (.bool x) ∧ (x = true ↔ S kl)

section
variable {P : Program} {k e : TypeId} {w : World} {b n : Nat} {S : Lit → Prop}
theorem SetAt.run (h : SetAt P k e w b n S) {t : TypeId} (K : Keyed P k) (ht : P.underlying t = some (.map k e)) (he : P.underlying e = some .bool) (hz : (zeroValue e).run P w = .ok (.bool false) w)
    {key : Value} {kl : Lit} (hkey : keyOf P k key = some kl) (hkl : WideAt.IsKeyLit kl) : ∃ x, (Instr.lookup t (.map (some b)) key false).run P w = .ok (.bool x) w ∧ (x = true ↔ S kl) := by
  obtain ⟨D, hown, _, hS⟩ := h
  obtain ⟨v, ps, hrun, hv⟩ := hown.lookup K ht hz (plainElem_bool he false) hkey
  obtain ⟨x, rfl, hx⟩ := plainElem_bool_inv he hv
  obtain ⟨x', h1, h2⟩ := hS kl hkl
  rw [h1] at hx
  simp at hx
  exact ⟨x, hrun, by rw [← hx.1]; exact h2⟩
theorem SetAt.run_true (h : SetAt P k e w b n S) {t : TypeId} (K : Keyed P k) (ht : P.underlying t = some (.map k e)) (he : P.underlying e = some .bool) (hz : (zeroValue e).run P w = .ok (.bool false) w)
    {key : Value} {kl : Lit} (hkey : keyOf P k key = some kl) (hkl : WideAt.IsKeyLit kl) (hS : S kl) : (Instr.lookup t (.map (some b)) key false).run P w = .ok (.bool true) w := by
  obtain ⟨x, h1, h2⟩ := h.run K ht he hz hkey hkl
  rw [h1, h2.2 hS]
theorem SetAt.run_false (h : SetAt P k e w b n S) {t : TypeId} (K : Keyed P k) (ht : P.underlying t = some (.map k e)) (he : P.underlying e = some .bool) (hz : (zeroValue e).run P w = .ok (.bool false) w)
    {key : Value} {kl : Lit} (hkey : keyOf P k key = some kl) (hkl : WideAt.IsKeyLit kl) (hS : ¬ S kl) : (Instr.lookup t (.map (some b)) key false).run P w = .ok (.bool false) w := by
  obtain ⟨x, h1, h2⟩ := h.run K ht he hz hkey hkl
  cases x
  · exact h1
  · exact absurd (h2.1 rfl) hS
theorem SetAt.congr {S' : Lit → Prop} (h : SetAt P k e w b n S) (hS : ∀ l, S l ↔ S' l) : SetAt P k e w b n S' := by
  obtain ⟨D, h1, h2, h3⟩ := h
  exact ⟨D, h1, h2, fun kl hk => by
    obtain ⟨x, e1, e2⟩ := h3 kl hk
    exact ⟨x, e1, e2.trans (hS kl)⟩⟩
theorem SetAt.made (w : World) (P : Program) (k e : TypeId) : SetAt P k e (w.alloc (.map #[] 0)) w.heap.size 0 (fun _ => False) :=
  ⟨_, World.ownsMap_made w P k _, ⟨_, rfl⟩, fun kl hk => ⟨false, WideAt.atKey_none _ (by simp), by simp⟩⟩
theorem SetAt.kept {w' : World} {row : Option Nat} (h : SetAt P k e w b n S) (hg : w.grownBy w' row) (hne : some b ≠ row) : SetAt P k e w' b n S := by
  obtain ⟨D, hown, r⟩ := h
  exact ⟨D, hown.kept hg hne, r⟩
theorem SetAt.lt (h : SetAt P k e w b n S) : b < w.heap.size := by
  obtain ⟨D, hown, _⟩ := h
  exact hown.lt
theorem SetAt.block {w' : World} (h : SetAt P k e w b n S) (e2 : w'.heap[b]? = w.heap[b]?) : SetAt P k e w' b n S := by
  obtain ⟨D, ⟨es, clock, hb, r⟩, q⟩ := h
  exact ⟨D, ⟨es, clock, e2.trans hb, r⟩, q⟩
theorem SetAt.below {w' : World} {B : Nat} (h : SetAt P k e w b n S) (hb : Below B w w') (hB : b < B) : SetAt P k e w' b n S := h.block (hb.block b hB)

theorem wpList_store_set (w : World) {ops : Array Oper} {rest : List Oper} {o : Oper} {a : Act} {Q : Exit → Act → World → Prop}
    (hg : o.guard = none) (m x v : Operand) (t : TypeId) (hop : o.op = Op.mapUpdate t m x v)
    (k e : TypeId) (K : Keyed P k) (ht : P.underlying t = some (.map k e)) (he : P.underlying e = some .bool) (b n : Nat) (S : Lit → Prop)
    (hm : a.eval m = .map (some b)) (h : SetAt P k e w b n S) (hn : n < maxLen) (key : Value) (y : Bool) (kl : Lit) (hx : a.eval x = key) (hv : a.eval v = .bool y) (hkey : keyOf P k key = some kl) (hkl : WideAt.IsKeyLit kl)
    (hK : ∀ w', SetAt P k e w' b (n + 1) (fun l => (l = kl ∧ y = true) ∨ (l ≠ kl ∧ S l)) → w.grownBy w' (some b) → wpList P ops Q rest (a.put o.dst undef) w') :
    wpList P ops Q (o :: rest) a w := by
  obtain ⟨D, hown, hmap, hS⟩ := h
  refine wpList_mapUpdate_own w hg m x v t hop k e K ht _ b n D hm hown hn key (.bool y) kl hx hv hkey (.lit (.bool y)) [] (plainElem_bool he y) ?_
  intro w1 hown1 hg1
  refine hK w1 ⟨_, hown1, ?_, fun l hl => ?_⟩ hg1
  · exact hmap.put _ _
  · by_cases e2 : l = kl
    · subst e2
      exact ⟨y, Maps.atKey_put_same hmap hl _ _, by simp⟩
    · obtain ⟨x, h1, h2⟩ := hS l hl
      exact ⟨x, by rw [Maps.atKey_put_other e2]; exact h1, by simp [e2, h2]⟩
end
end Go.Proofs.YtlpgldejmdiceabGreat.mapb
end

section
namespace Go.Proofs.YtlpgldejmdiceabGreat.opn
open kit bg
open Go.ChangeShapes Go.WideShapes Go.ChangeAt Go.RowKit Go.Deep Go.Joins

theorem list_of {α : Type} {Q : Nat → α → Prop} : ∀ {n : Nat}, (∀ i, i < n → ∃ x, Q i x) → ∃ xs : List α, xs.length = n ∧ ∀ (k : Nat) x, xs[k]? = some x → Q k x := by
  intro n
  induction n with
  | zero => intro _; exact ⟨[], rfl, by simp⟩
  | succ n ih =>
    intro h
    obtain ⟨xs, hl, hx⟩ := ih (fun i hi => h i (by omega))
    obtain ⟨x, hq⟩ := h n (by omega)
    refine ⟨xs ++ [x], by simp [hl], fun k y hy => ?_⟩
    by_cases hk : k < n
    · rw [List.getElem?_append_left (by omega)] at hy
      exact hx k y hy
    · have hkn : k = n := by
        have := (List.getElem?_eq_some_iff.1 hy).1
        simp [hl] at this
        omega
      subst hkn
      rw [List.getElem?_append_right (by omega)] at hy
      simp [hl] at hy
      subst hy
      exact hq

def NdW (x : Nd) : Prop := (Lit.int .i64 x.control).wf = true ∧ (Lit.int .i64 x.parent).wf = true ∧ x.links.length ≤ maxLen ∧ ∀ z ∈ x.links, (Lit.int .i64 z).wf = true
def CtlW (x : Ctl) : Prop := x.name.size ≤ maxLen ∧ (Lit.int .i64 x.ports).wf = true ∧ (Lit.int .i64 x.kind).wf = true
def WrW (x : Wr) : Prop := x.name.size ≤ maxLen ∧ (Lit.int .i64 x.link).wf = true
def CtlsW (cs : List Ctl) : Prop := cs.length ≤ maxLen ∧ ∀ c ∈ cs, CtlW c
def BigW (b : Big) : Prop := (Lit.int .i64 b.roots).wf = true ∧ (Lit.int .i64 b.edges).wf = true ∧ b.nodes.length ≤ maxLen ∧ (∀ x ∈ b.nodes, NdW x) ∧ b.sites.length ≤ maxLen ∧ (∀ z ∈ b.sites, (Lit.int .i64 z).wf = true) ∧
  b.outer.length ≤ maxLen ∧ (∀ s ∈ b.outer, s.size ≤ maxLen) ∧ b.inner.length ≤ maxLen ∧ ∀ x ∈ b.inner, WrW x

section
variable {H : Type} {enc : TypeId × Value → H} {P : Program} {W : World} {fuel : Nat}

theorem ints_of {t e : TypeId} (ht : P.underlying t = some (.slice e)) (he : P.underlying e = some (.int .i64)) (hc : P.cellsOf e = 1) {v : Value} {y : DataW H × List MemPlace}
    (h : DataW.trod enc P W 0 (fun _ => true) true fuel t [v] = some y) (hlt : ∀ x ∈ y.2, x.block < W.heap.size) : ∃ A n c zs, v = .slice A n c ∧ IntsAt W W.heap.size A n zs ∧ n ≤ maxLen ∧ ∀ z ∈ zs, (Lit.int .i64 z).wf = true := by
  have hv : ∃ A n c, v = .slice A n c := by
    rcases open_ints ht he hc h with ⟨hcs, _⟩ | ⟨a, l, c', zs, hcs, _⟩
    · simp at hcs; exact ⟨_, _, _, hcs⟩
    · simp at hcs; exact ⟨_, _, _, hcs⟩
  obtain ⟨A, n, c, rfl⟩ := hv
  obtain ⟨d, p⟩ := y
  obtain ⟨zs, h1, h2, h3⟩ := sr_ints (a0 := A) (n := n) (c := c) ht he hc ⟨fuel, by simpa [Value.cells] using h⟩ hlt
  exact ⟨A, n, c, zs, rfl, h1, h2, h3⟩
theorem strs_of {t e : TypeId} (ht : P.underlying t = some (.slice e)) (he : P.underlying e = some .string) (hc : P.cellsOf e = 1) {v : Value} {y : DataW H × List MemPlace}
    (h : DataW.trod enc P W 0 (fun _ => true) true fuel t [v] = some y) (hlt : ∀ x ∈ y.2, x.block < W.heap.size) : ∃ A n c, ∃ ss : List ByteArray, v = .slice A n c ∧ SR W W.heap.size A n (ss.map Value.string) ∧ n ≤ maxLen ∧ ∀ s ∈ ss, s.size ≤ maxLen := by
  have hv : ∃ A n c, v = .slice A n c := by
    rcases open_strings ht he hc h with ⟨hcs, _⟩ | ⟨a, l, c', zs, hcs, _⟩
    · simp at hcs; exact ⟨_, _, _, hcs⟩
    · simp at hcs; exact ⟨_, _, _, hcs⟩
  obtain ⟨A, n, c, rfl⟩ := hv
  obtain ⟨d, p⟩ := y
  obtain ⟨zs, h1, h2, h3⟩ := sr_strings (a0 := A) (n := n) (c := c) ht he hc ⟨fuel, by simpa [Value.cells] using h⟩ hlt
  exact ⟨A, n, c, zs, rfl, h1, h2, h3⟩

theorem add_none (b off k : Nat) : Addr.add ⟨b, off, none⟩ k = ⟨b, off + k, none⟩ := Go.WideShapes.add_plain b off k

/-- the parts of a struct of one-cell fields -/
theorem struct_parts {t : TypeId} {fs : Array Field} {cs : List Value} {x : DataW H × List MemPlace} (hs : P.underlying t = some (.struct fs)) (hone : oneCellFields P fs = true) (hC : P.cellsOf t = fs.size)
    (h : DataW.trod enc P W 0 (fun _ => true) true fuel t cs = some x) : cs.length = fs.size ∧ ∃ m, ∀ (j : Nat) f, fs[j]? = some f → ∃ u z, cs[j]? = some u ∧ DataW.trod enc P W 0 (fun _ => true) true m f.type [u] = some z ∧ ∀ p ∈ z.2, p ∈ x.2 := by
  obtain ⟨xs, m, _, hx, hlen, hxl, hf⟩ := DataW.trod_struct hs h
  have hl : cs.length = fs.size := hlen.trans hC
  refine ⟨hl, m, fun j f hj => ?_⟩
  have hjl : j < cs.length := by rw [hl]; exact (Array.getElem?_eq_some_iff.1 hj).1
  obtain ⟨ho, hk⟩ := hone_of hone j f hj
  have h1 := hf j f hj
  have hd : (cs.drop f.offset).take (P.cellsOf f.type) = [cs[j]] := by
    rw [ho, hk, List.drop_eq_getElem_cons hjl]; rfl
  rw [hd] at h1
  have hxj : xs[j]? = some (xs[j]'(by omega)) := List.getElem?_eq_getElem _
  refine ⟨_, _, List.getElem?_eq_getElem hjl, h1.trans hxj, fun p hp => ?_⟩
  rw [hx]
  exact List.mem_flatMap.2 ⟨_, List.getElem_mem _, hp⟩

/-- a slice of structs of one-cell fields: each element's cells and their reading -/
theorem rows_of {t e : TypeId} {fs : Array Field} (ht : P.underlying t = some (.slice e)) (he : P.underlying e = some (.struct fs)) (hone : oneCellFields P fs = true) (hC : P.cellsOf e = fs.size) (hfs : 0 < fs.size) {v : Value} {y : DataW H × List MemPlace}
    (h : DataW.trod enc P W 0 (fun _ => true) true fuel t [v] = some y) (hlt : ∀ x ∈ y.2, x.block < W.heap.size) :
    ∃ A n c, v = .slice A n c ∧ n ≤ maxLen ∧ (0 < n → ∃ b off, A = some ⟨b, off, none⟩ ∧ b < W.heap.size ∧ ∀ i, i < n → ∃ m, ∀ (j : Nat) f, fs[j]? = some f →
      ∃ (u : Value) (z : DataW H × List MemPlace), W.cell? ⟨b, off + i * fs.size + j, none⟩ = some u ∧ DataW.trod enc P W 0 (fun _ => true) true m f.type [u] = some z ∧ ∀ x ∈ z.2, x.block < W.heap.size) := by
  rcases open_slice ht h with ⟨hcs, _⟩ | ⟨a, len, cap, m, n, D, Pl, hcs, _, hl, hm, hmm, hx, hi⟩
  · simp at hcs
    exact ⟨none, 0, 0, hcs, by unfold maxLen; omega, fun h0 => absurd h0 (by omega)⟩
  · simp at hcs hmm
    rw [hC] at hi
    have hel : ∀ i, i < m → ∃ m', ∀ (j : Nat) f, fs[j]? = some f → ∃ u z, W.cell? (a.add (i * fs.size + j)) = some u ∧ DataW.trod enc P W 0 (fun _ => true) true m' f.type [u] = some z ∧ ∀ p ∈ z.2, p ∈ Pl i := by
      intro i him
      obtain ⟨cs', hc, ht'⟩ := hi i him
      obtain ⟨_, hcl, hat⟩ := World.cells?_some hc
      obtain ⟨_, m', hp⟩ := struct_parts he hone hC ht'
      refine ⟨m', fun j f hj => ?_⟩
      obtain ⟨u, z, hu, hz, hsub⟩ := hp j f hj
      refine ⟨u, z, ?_, hz, hsub⟩
      rw [← hu, ← hat j (Array.getElem?_eq_some_iff.1 hj).1, Go.Deep.add_add]
    refine ⟨some a, len, cap, hcs, by omega, fun h0 => ?_⟩
    obtain ⟨m0, hf0⟩ := hel 0 (by omega)
    obtain ⟨u0, z0, hc0, _⟩ := hf0 0 _ (Array.getElem?_eq_getElem hfs)
    obtain ⟨b, off, spot⟩ := a
    have hspot : spot = none := by simpa [Addr.add] using World.cell?_spot hc0
    subst hspot
    have hb : b < W.heap.size := by
      have := World.block_lt_of_cell? W _ hc0
      rw [add_none] at this
      exact this
    refine ⟨b, off, rfl, hb, fun i hin => ?_⟩
    obtain ⟨m', hf⟩ := hel i (by omega)
    refine ⟨m', fun j f hj => ?_⟩
    obtain ⟨u, z, hcell, htr, hsub⟩ := hf j f hj
    refine ⟨u, z, ?_, htr, fun x hxz => hlt x ?_⟩
    · rw [← hcell, add_none, Nat.add_assoc]
    · rw [hx]
      exact List.mem_append.2 (.inr (List.mem_flatMap.2 ⟨i, List.mem_range.2 (by omega), hsub x hxz⟩))

theorem ctls_of {t e : TypeId} {f0 f1 f2 : Field} (ht : P.underlying t = some (.slice e)) (he : P.underlying e = some (.struct #[f0, f1, f2])) (hone : oneCellFields P #[f0, f1, f2] = true) (hC : P.cellsOf e = 3)
    (h0 : P.underlying f0.type = some .string) (h1 : P.underlying f1.type = some (.int .i64)) (h2 : P.underlying f2.type = some (.int .i64)) {v : Value} {y : DataW H × List MemPlace}
    (h : DataW.trod enc P W 0 (fun _ => true) true fuel t [v] = some y) (hlt : ∀ x ∈ y.2, x.block < W.heap.size) :
    ∃ A n c cs, v = .slice A n c ∧ CtlsAt W W.heap.size A n cs ∧ CtlsW cs := by
  obtain ⟨A, n, c, rfl, hn, hr⟩ := rows_of ht he hone hC (by simp) h hlt
  by_cases hz : 0 < n
  · obtain ⟨b, off, rfl, hb, hi⟩ := hr hz
    obtain ⟨cs, hl, hcs⟩ := list_of (α := Ctl) (n := n) (Q := fun k c => (W.cell? ⟨b, off + k * 3, none⟩ = some (.string c.name) ∧ W.cell? ⟨b, off + k * 3 + 1, none⟩ = some (.int .i64 c.ports) ∧ W.cell? ⟨b, off + k * 3 + 2, none⟩ = some (.int .i64 c.kind)) ∧ CtlW c) (fun i hin => by
      obtain ⟨m, hf⟩ := hi i hin
      obtain ⟨u0, z0, c0, t0, _⟩ := hf 0 f0 rfl
      obtain ⟨u1, z1, c1, t1, _⟩ := hf 1 f1 rfl
      obtain ⟨u2, z2, c2, t2, _⟩ := hf 2 f2 rfl
      obtain ⟨s, e0, _, w0⟩ := DataW.trod_string h0 t0
      obtain ⟨p, e1, _, w1⟩ := DataW.trod_int h1 t1
      obtain ⟨q, e2, _, w2⟩ := DataW.trod_int h2 t2
      simp at e0 e1 e2
      subst e0 e1 e2
      exact ⟨⟨s, p, q⟩, ⟨c0, c1, c2⟩, w0, w1, w2⟩)
    refine ⟨_, n, c, cs, rfl, ⟨hl, fun _ => ⟨b, off, rfl, hb, fun k c hk => (hcs k c hk).1⟩⟩, by omega, fun c hc => ?_⟩
    obtain ⟨k, hk⟩ := List.getElem?_of_mem hc
    exact (hcs k c hk).2
  · have : n = 0 := by omega
    subst this
    exact ⟨A, 0, c, [], rfl, ⟨rfl, fun h => absurd h (by omega)⟩, by simp [maxLen], by simp⟩

theorem wrs_of {t e : TypeId} {f0 f1 : Field} (ht : P.underlying t = some (.slice e)) (he : P.underlying e = some (.struct #[f0, f1])) (hone : oneCellFields P #[f0, f1] = true) (hC : P.cellsOf e = 2)
    (h0 : P.underlying f0.type = some .string) (h1 : P.underlying f1.type = some (.int .i64)) {v : Value} {y : DataW H × List MemPlace}
    (h : DataW.trod enc P W 0 (fun _ => true) true fuel t [v] = some y) (hlt : ∀ x ∈ y.2, x.block < W.heap.size) :
    ∃ A n c cs, v = .slice A n c ∧ WrsAt W W.heap.size A n cs ∧ n ≤ maxLen ∧ ∀ x ∈ cs, WrW x := by
  obtain ⟨A, n, c, rfl, hn, hr⟩ := rows_of ht he hone hC (by simp) h hlt
  by_cases hz : 0 < n
  · obtain ⟨b, off, rfl, hb, hi⟩ := hr hz
    obtain ⟨cs, hl, hcs⟩ := list_of (α := Wr) (n := n) (Q := fun k c => (W.cell? ⟨b, off + k * 2, none⟩ = some (.string c.name) ∧ W.cell? ⟨b, off + k * 2 + 1, none⟩ = some (.int .i64 c.link)) ∧ WrW c) (fun i hin => by
      obtain ⟨m, hf⟩ := hi i hin
      obtain ⟨u0, z0, c0, t0, _⟩ := hf 0 f0 rfl
      obtain ⟨u1, z1, c1, t1, _⟩ := hf 1 f1 rfl
      obtain ⟨s, e0, _, w0⟩ := DataW.trod_string h0 t0
      obtain ⟨p, e1, _, w1⟩ := DataW.trod_int h1 t1
      simp at e0 e1
      subst e0 e1
      exact ⟨⟨s, p⟩, ⟨c0, c1⟩, w0, w1⟩)
    refine ⟨_, n, c, cs, rfl, ⟨hl, fun _ => ⟨b, off, rfl, hb, fun k c hk => (hcs k c hk).1⟩⟩, hn, fun c hc => ?_⟩
    obtain ⟨k, hk⟩ := List.getElem?_of_mem hc
    exact (hcs k c hk).2
  · have : n = 0 := by omega
    subst this
    exact ⟨A, 0, c, [], rfl, ⟨rfl, fun h => absurd h (by omega)⟩, hn, by simp⟩

theorem nds_of {t e tl el : TypeId} {f0 f1 f2 : Field} (ht : P.underlying t = some (.slice e)) (he : P.underlying e = some (.struct #[f0, f1, f2])) (hone : oneCellFields P #[f0, f1, f2] = true) (hC : P.cellsOf e = 3)
    (h0 : P.underlying f0.type = some (.int .i64)) (h1 : P.underlying f1.type = some (.int .i64)) (h2 : f2.type = tl) (h3 : P.underlying tl = some (.slice el)) (h4 : P.underlying el = some (.int .i64)) (h5 : P.cellsOf el = 1) {v : Value} {y : DataW H × List MemPlace}
    (h : DataW.trod enc P W 0 (fun _ => true) true fuel t [v] = some y) (hlt : ∀ x ∈ y.2, x.block < W.heap.size) :
    ∃ A n c cs, v = .slice A n c ∧ NdsAt W W.heap.size A n cs ∧ n ≤ maxLen ∧ ∀ x ∈ cs, NdW x := by
  obtain ⟨A, n, c, rfl, hn, hr⟩ := rows_of ht he hone hC (by simp) h hlt
  by_cases hz : 0 < n
  · obtain ⟨b, off, rfl, hb, hi⟩ := hr hz
    obtain ⟨cs, hl, hcs⟩ := list_of (α := Nd) (n := n) (Q := fun k x => (W.cell? ⟨b, off + k * 3, none⟩ = some (.int .i64 x.control) ∧ W.cell? ⟨b, off + k * 3 + 1, none⟩ = some (.int .i64 x.parent) ∧
        ∃ A' n' c', W.cell? ⟨b, off + k * 3 + 2, none⟩ = some (.slice A' n' c') ∧ IntsAt W W.heap.size A' n' x.links) ∧ NdW x) (fun i hin => by
      obtain ⟨m, hf⟩ := hi i hin
      obtain ⟨u0, z0, c0, t0, _⟩ := hf 0 f0 rfl
      obtain ⟨u1, z1, c1, t1, _⟩ := hf 1 f1 rfl
      obtain ⟨u2, z2, c2, t2, l2⟩ := hf 2 f2 rfl
      obtain ⟨p, e0, _, w0⟩ := DataW.trod_int h0 t0
      obtain ⟨q, e1, _, w1⟩ := DataW.trod_int h1 t1
      rw [h2] at t2
      obtain ⟨A', n', c', zs, rfl, hz, hn', hw⟩ := ints_of h3 h4 h5 t2 l2
      simp at e0 e1
      subst e0 e1
      exact ⟨⟨p, q, zs⟩, ⟨c0, c1, A', n', c', c2, hz⟩, w0, w1, by have := hz.len; show zs.length ≤ _; omega, hw⟩)
    refine ⟨_, n, c, cs, rfl, ⟨hl, fun _ => ⟨b, off, rfl, hb, fun k c hk => (hcs k c hk).1⟩⟩, hn, fun c hc => ?_⟩
    obtain ⟨k, hk⟩ := List.getElem?_of_mem hc
    exact (hcs k c hk).2
  · have : n = 0 := by omega
    subst this
    exact ⟨A, 0, c, [], rfl, ⟨rfl, fun h => absurd h (by omega)⟩, hn, by simp⟩
end

set_option maxRecDepth 100000 in
/-- an argument that is a signature -/
theorem open_sig {H : Type} {enc : TypeId × Value → H} {W : World} {base : Nat} {v : Value} {d : DataW H} {p : List MemPlace} (_hv : Value.okWide Tryz.prog W .any base 22 v)
    (h : DataW.Trod enc Tryz.prog W 0 (fun _ => true) true 22 v d p) (hlt : ∀ x ∈ p, x.block < W.heap.size) : ∃ A n c cs, v = .slice A n c ∧ CtlsAt W W.heap.size A n cs ∧ CtlsW cs := by
  obtain ⟨A, n, c, rfl⟩ := okWide_slice Tryz.underlying22 _hv
  obtain ⟨fuel, hf⟩ := h
  obtain ⟨A', n', c', cs, e, h1, h2⟩ := ctls_of (y := (d, p)) Tryz.underlying22 Tryz.underlying47 (by kernel_rfl) (by kernel_rfl) (by kernel_rfl) (by kernel_rfl) (by kernel_rfl) (by simpa [Value.cells] using hf) hlt
  cases e
  exact ⟨A, n, c, cs, rfl, h1, h2⟩

set_option maxRecDepth 100000 in
/-- an argument that is a Bigraph -/
theorem open_big {H : Type} {enc : TypeId × Value → H} {W : World} {base : Nat} {v : Value} {d : DataW H} {p : List MemPlace} (hv : Value.okWide Tryz.prog W .any base 52 v)
    (h : DataW.Trod enc Tryz.prog W 0 (fun _ => true) true 52 v d p) (hlt : ∀ x ∈ p, x.block < W.heap.size) : ∃ b, BigAt W W.heap.size v b ∧ BigW b := by
  obtain ⟨cs, rfl, _⟩ := okWide_struct Tryz.underlying52 hv
  obtain ⟨fuel, hf⟩ := h
  obtain ⟨hl, m, hp⟩ := struct_parts (x := (d, p)) Tryz.underlying52 (by kernel_rfl) (by kernel_rfl) hf
  obtain ⟨u0, z0, e0, t0, l0⟩ := hp 0 _ rfl
  obtain ⟨u1, z1, e1, t1, l1⟩ := hp 1 _ rfl
  obtain ⟨u2, z2, e2, t2, l2⟩ := hp 2 _ rfl
  obtain ⟨u3, z3, e3, t3, l3⟩ := hp 3 _ rfl
  obtain ⟨u4, z4, e4, t4, l4⟩ := hp 4 _ rfl
  obtain ⟨u5, z5, e5, t5, l5⟩ := hp 5 _ rfl
  obtain ⟨r, x0, _, w0⟩ := DataW.trod_int Tryz.underlying3 t0
  obtain ⟨A1, n1, c1, ns, rfl, h1, b1, w1⟩ := nds_of Tryz.underlying49 Tryz.underlying100 (by kernel_rfl) (by kernel_rfl) Tryz.underlying3 Tryz.underlying3 rfl Tryz.underlying27 Tryz.underlying3 (by kernel_rfl) t1 (fun x hx => hlt x (l1 x hx))
  obtain ⟨A2, n2, c2, ss, rfl, h2, b2, w2⟩ := ints_of Tryz.underlying27 Tryz.underlying3 (by kernel_rfl) t2 (fun x hx => hlt x (l2 x hx))
  obtain ⟨g, x3, _, w3⟩ := DataW.trod_int Tryz.underlying3 t3
  obtain ⟨A4, n4, c4, os, rfl, h4, b4, w4⟩ := strs_of Tryz.underlying28 Tryz.underlying9 (by kernel_rfl) t4 (fun x hx => hlt x (l4 x hx))
  obtain ⟨A5, n5, c5, is, rfl, h5, b5, w5⟩ := wrs_of Tryz.underlying50 Tryz.underlying102 (by kernel_rfl) (by kernel_rfl) Tryz.underlying9 Tryz.underlying3 t5 (fun x hx => hlt x (l5 x hx))
  simp at x0 x3
  subst x0 x3
  have hcs : cs = #[.int .i64 r, .slice A1 n1 c1, .slice A2 n2 c2, .int .i64 g, .slice A4 n4 c4, .slice A5 n5 c5] := by
    obtain ⟨l⟩ := cs
    have hl' : l.length = 6 := by simpa [Value.cells] using hl
    match l, hl' with
    | [a, b, c, d, e, f], _ =>
      simp [Value.cells] at e0 e1 e2 e3 e4 e5
      simp [e0, e1, e2, e3, e4, e5]
  subst hcs
  have q1 := h1.1
  have q2 := h2.len
  have q4 := h4.strlen
  have q5 := h5.1
  exact ⟨⟨r, ns, ss, g, os, is⟩, ⟨A1, n1, c1, A2, n2, c2, A4, n4, c4, A5, n5, c5, rfl, h1, h2, h4, h5⟩, w0, w3, by show ns.length ≤ _; omega, w1, by show ss.length ≤ _; omega, w2, by show os.length ≤ _; omega, w4, by show is.length ≤ _; omega, w5⟩
end Go.Proofs.YtlpgldejmdiceabGreat.opn
end

section
namespace Go.Proofs.YtlpgldejmdiceabGreat.only
set_option linter.unusedVariables false
open kit
open Go.RowKit

structure Only (lo hi : Nat) (w w' : World) : Prop where
  os : w'.os = w.os
  tape : w'.tape = w.tape
  output : w'.output = w.output
  size : w.heap.size ≤ w'.heap.size
  block : ∀ k, k < w.heap.size → (k < lo ∨ hi ≤ k) → w'.heap[k]? = w.heap[k]?
  rows : ∀ b t n, (∃ f, w.rowIs b t n f) → ∃ f, w'.rowIs b t n f

theorem Only.refl (lo hi : Nat) (w : World) : Only lo hi w w := ⟨rfl, rfl, rfl, Nat.le_refl _, fun _ _ _ => rfl, fun _ _ _ h => h⟩
theorem Only.trans {lo hi : Nat} {a b c : World} (h : Only lo hi a b) (k : Only lo hi b c) : Only lo hi a c :=
  ⟨k.os.trans h.os, k.tape.trans h.tape, k.output.trans h.output, Nat.le_trans h.size k.size, fun i hi h' => (k.block i (Nat.lt_of_lt_of_le hi h.size) h').trans (h.block i hi h'), fun b t n hr => k.rows b t n (h.rows b t n hr)⟩
theorem Only.of_below {lo hi : Nat} {w w' : World} (h : Below w.heap.size w w') : Only lo hi w w' :=
  ⟨h.os, h.tape, h.output, h.size, fun k hk _ => h.block k hk, fun b t n ⟨f, hf⟩ => ⟨f, hf.of_block (h.block b hf.lt)⟩⟩
theorem Only.set {lo hi : Nat} (w : World) {g : Nat} (h1 : lo ≤ g) (h2 : g < hi) (o : Nat) (u : Value) : Only lo hi w (w.setCell ⟨g, o, none⟩ u) :=
  ⟨rfl, rfl, rfl, by simp [World.setCell], fun k _ hk => Below.heap_setCell _ _ _ _ (by show k ≠ g; omega), fun b t n ⟨f, hf⟩ => by
    by_cases e : b = g
    · subst e; exact ⟨_, hf.set o u⟩
    · exact ⟨f, hf.setOther (a := ⟨g, o, none⟩) e u⟩⟩
theorem Only.wide {lo hi lo' hi' : Nat} {w w' : World} (h : Only lo hi w w') (h1 : lo' ≤ lo) (h2 : hi ≤ hi') : Only lo' hi' w w' :=
  ⟨h.os, h.tape, h.output, h.size, fun k hk h' => h.block k hk (by omega), h.rows⟩
theorem rowIs_uniq {w : World} {b : Nat} {t t' : TypeId} {n n' : Nat} {f f' : Nat → Value} (h : w.rowIs b t n f) (h' : w.rowIs b t' n' f') : t = t' ∧ n = n' := by
  obtain ⟨c, hb, hn, _⟩ := h
  obtain ⟨c', hb', hn', _⟩ := h'
  rw [hb] at hb'
  simp at hb'
  obtain ⟨rfl, rfl⟩ := hb'
  exact ⟨rfl, hn.symm.trans hn'⟩
theorem Only.of_grown {lo hi : Nat} {w w' : World} {g : Nat} {t : TypeId} {n : Nat} {f f' : Nat → Value} (hg : w.grownBy w' (some g)) (hr : w.rowIs g t n f) (hr' : w'.rowIs g t n f') (h1 : lo ≤ g) (h2 : g < hi) : Only lo hi w w' :=
  ⟨hg.os, hg.tape, hg.output, hg.size, fun k hk h' => hg.block k hk (fun e => by injection e with e; omega), fun b t2 n2 ⟨f2, hf2⟩ => by
    by_cases e : b = g
    · subst e
      obtain ⟨rfl, rfl⟩ := rowIs_uniq hr hf2
      exact ⟨f', hr'⟩
    · exact ⟨f2, hf2.of_block (hg.block b hf2.lt (fun e2 => e (by injection e2)))⟩⟩
/-- below the range it is as it was -/
theorem Only.below {lo hi : Nat} {w w' : World} (h : Only lo hi w w') (hlo : lo ≤ w.heap.size) : Below lo w w' := ⟨h.os, h.tape, h.output, h.size, fun k hk => h.block k (by omega) (.inl hk)⟩
theorem Only.cell {lo hi : Nat} {w w' : World} (h : Only lo hi w w') {p : Addr} (hp : p.block < w.heap.size) (h2 : p.block < lo ∨ hi ≤ p.block) : w'.cell? p = w.cell? p := World.cell?_of_block (w := w) (h.block p.block hp h2)

theorem row_new (w : World) (c : Array Value) (t : TypeId) (m : Nat) (h : c.size = m) : (w.alloc (.cells c t)).rowIs w.heap.size t m (fun i => (c[i]?).getD undef) :=
  ⟨c, (MapKept.heap_alloc w _).1, h, fun i hi => by
    simp [show i < c.size by omega]⟩

/-- three cells of a row put in place -/
def put3 (f : Nat → Value) (k : Nat) (a b c : Value) : Nat → Value := fun i => if i = k * 3 + 2 then c else if i = k * 3 + 1 then b else if i = k * 3 then a else f i
theorem put3_old {f : Nat → Value} {k j : Nat} {a b c : Value} (h : j < k) : put3 f k a b c (j * 3) = f (j * 3) ∧ put3 f k a b c (j * 3 + 1) = f (j * 3 + 1) ∧ put3 f k a b c (j * 3 + 2) = f (j * 3 + 2) := by
  unfold put3
  refine ⟨?_, ?_, ?_⟩ <;> rw [if_neg (by omega), if_neg (by omega), if_neg (by omega)]
theorem put3_new {f : Nat → Value} {k : Nat} {a b c : Value} : put3 f k a b c (k * 3) = a ∧ put3 f k a b c (k * 3 + 1) = b ∧ put3 f k a b c (k * 3 + 2) = c := by
  unfold put3
  exact ⟨by rw [if_neg (by omega), if_neg (by omega), if_pos rfl], by rw [if_neg (by omega), if_pos rfl], if_pos rfl⟩
theorem put3_row {w : World} {b : Nat} {t : TypeId} {n : Nat} {f : Nat → Value} (h : w.rowIs b t n f) (k : Nat) (x y z : Value) :
    (((w.setCell ⟨b, k * 3, none⟩ x).setCell ⟨b, k * 3 + 1, none⟩ y).setCell ⟨b, k * 3 + 2, none⟩ z).rowIs b t n (put3 f k x y z) := ((h.set (k * 3) x).set (k * 3 + 1) y).set (k * 3 + 2) z
theorem put3_below {B : Nat} {a w : World} {b : Nat} (h : Below B a w) (hB : B ≤ b) (k : Nat) (x y z : Value) : Below B a (((w.setCell ⟨b, k * 3, none⟩ x).setCell ⟨b, k * 3 + 1, none⟩ y).setCell ⟨b, k * 3 + 2, none⟩ z) :=
  ((h.setCell (p := ⟨b, k * 3, none⟩) hB x).setCell (p := ⟨b, k * 3 + 1, none⟩) hB y).setCell (p := ⟨b, k * 3 + 2, none⟩) hB z
/-- two cells -/
def put2 (f : Nat → Value) (k : Nat) (a b : Value) : Nat → Value := fun i => if i = k * 2 + 1 then b else if i = k * 2 then a else f i
theorem put2_old {f : Nat → Value} {k j : Nat} {a b : Value} (h : j < k) : put2 f k a b (j * 2) = f (j * 2) ∧ put2 f k a b (j * 2 + 1) = f (j * 2 + 1) := by
  unfold put2
  refine ⟨?_, ?_⟩ <;> rw [if_neg (by omega), if_neg (by omega)]
theorem put2_new {f : Nat → Value} {k : Nat} {a b : Value} : put2 f k a b (k * 2) = a ∧ put2 f k a b (k * 2 + 1) = b := by
  unfold put2
  exact ⟨by rw [if_neg (by omega), if_pos rfl], if_pos rfl⟩
theorem put2_row {w : World} {b : Nat} {t : TypeId} {n : Nat} {f : Nat → Value} (h : w.rowIs b t n f) (k : Nat) (x y : Value) :
    ((w.setCell ⟨b, k * 2, none⟩ x).setCell ⟨b, k * 2 + 1, none⟩ y).rowIs b t n (put2 f k x y) := (h.set (k * 2) x).set (k * 2 + 1) y
theorem put2_below {B : Nat} {a w : World} {b : Nat} (h : Below B a w) (hB : B ≤ b) (k : Nat) (x y : Value) : Below B a ((w.setCell ⟨b, k * 2, none⟩ x).setCell ⟨b, k * 2 + 1, none⟩ y) :=
  (h.setCell (p := ⟨b, k * 2, none⟩) hB x).setCell (p := ⟨b, k * 2 + 1, none⟩) hB y

/-- sums over lists -/
def sumBy {α : Type} (f : α → Nat) : List α → Nat
  | [] => 0
  | x :: r => f x + sumBy f r
theorem sumBy_append {α : Type} (f : α → Nat) (a b : List α) : sumBy f (a ++ b) = sumBy f a + sumBy f b := by
  induction a with
  | nil => simp [sumBy]
  | cons x a ih => simp only [List.cons_append, sumBy, ih]; omega
theorem sumBy_snoc {α : Type} (f : α → Nat) {xs : List α} {k : Nat} {x : α} (h : xs[k]? = some x) : sumBy f (xs.take (k + 1)) = sumBy f (xs.take k) + f x := by
  rw [take_snoc h, sumBy_append]; simp [sumBy]
theorem sumBy_mem {α : Type} (f : α → Nat) {xs : List α} {x : α} (h : x ∈ xs) : f x ≤ sumBy f xs := by
  induction xs with
  | nil => cases h
  | cons y r ih =>
    simp only [sumBy]
    rcases List.mem_cons.1 h with rfl | h
    · omega
    · have := ih h; omega
theorem sumBy_take {α : Type} (f : α → Nat) (xs : List α) (k : Nat) : sumBy f (xs.take k) ≤ sumBy f xs := by
  have := sumBy_append f (xs.take k) (xs.drop k)
  rw [List.take_append_drop] at this
  omega

/-- what a size function of the law tells: a number below 0, or what is left -/
def szP (t : Nat) (left : Int) (w : World) (e : Ending) (w' : World) : Prop :=
  ∃ r : Int, e = .returned (.int .i64 r) ∧ (r < 0 ∨ r = left - (t : Int)) ∧ -1 ≤ r ∧ r ≤ left ∧ Below w.heap.size w w'
end Go.Proofs.YtlpgldejmdiceabGreat.only
end

section
namespace Go.Proofs.YtlpgldejmdiceabGreat.marks
open kit strs only
open Go.RowKit

/-- the mark of a number above 0 -/
def mt (k : Int) : ByteArray := ⟨(109 :: Lib.decDigits k.toNat).toArray⟩

theorem nums_one {d : Int} (h0 : 0 ≤ d) (h1 : d < 10) : strOfNums [48 + d] = ⟨#[UInt8.ofNat (48 + d.toNat)]⟩ := by
  have e : (48 + d).toNat = 48 + d.toNat := by omega
  simp [strOfNums, e]
theorem one_join (b : UInt8) (r : List UInt8) : (ByteArray.mk #[b]) ++ ⟨r.toArray⟩ = ⟨(b :: r).toArray⟩ := by
  apply ByteArray.ext
  simp
theorem conv_one (w : World) (d : Int) (h0 : 0 ≤ d) (h1 : d < 10) :
    (convert 98 9 (.slice (some ⟨w.heap.size, 0, none⟩) 1 1)).run Tryz.prog (w.alloc (.cells #[.int .u8 (48 + d)] 5)) = .ok (.string ⟨#[UInt8.ofNat (48 + d.toNat)]⟩) (w.alloc (.cells #[.int .u8 (48 + d)] 5)) := by
  rw [run_convert_bytes_arg (w.alloc (.cells #[.int .u8 (48 + d)] 5)) 98 5 Tryz.underlying98 Tryz.underlying5 w.heap.size 0 1 1 [48 + d] rfl (fun i hi => by
    obtain rfl : i = 0 := by omega
    simp) 9 Tryz.underlying9, nums_one h0 h1]

theorem only_below {a w w1 : World} {row : Option Nat} (h : a.grownBy w row) (k : Below w.heap.size w w1) : a.grownBy w1 row :=
  ⟨k.os.trans h.os, k.tape.trans h.tape, k.output.trans h.output, Nat.le_trans h.size k.size, fun i hi hne => (k.block i (Nat.lt_of_lt_of_le hi h.size)).trans (h.block i hi hne)⟩
theorem only_set {a w : World} {g : Nat} (h : a.grownBy w (some g)) (o : Nat) (u : Value) : a.grownBy (w.setCell ⟨g, o, none⟩ u) (some g) :=
  ⟨h.os, h.tape, h.output, by simpa [World.setCell] using h.size, fun i hi hne => (Below.heap_setCell w ⟨g, o, none⟩ u i (fun e => hne (by rw [e]))).trans (h.block i hi hne)⟩

/-- what the loop keeps: m is what is left to write, r what has been written -/
def Mid (k m : Int) (r : List UInt8) : Prop := if 0 < m then Lib.decDigits k.toNat = Lib.decDigits m.toNat ++ r else Lib.decDigits k.toNat = r
theorem mid_len {k m : Int} {r : List UInt8} (h : Mid k m r) (hk : k ≤ 16000000) : r.length ≤ 16000001 := by
  have hl := dec_len _ k.toNat (Nat.le_refl _)
  unfold Mid at h
  split at h
  · rw [h, List.length_append] at hl; omega
  · rw [h] at hl; omega
theorem mid_next {k m : Int} {r : List UInt8} (h : Mid k m r) (hm : 0 < m) : Mid k (m / 10) (UInt8.ofNat (48 + (m % 10).toNat) :: r) := by
  unfold Mid at h ⊢
  rw [if_pos hm] at h
  have e1 : (m / 10).toNat = m.toNat / 10 := by omega
  have e2 : (m % 10).toNat = m.toNat % 10 := by omega
  by_cases h10 : m < 10
  · rw [if_neg (by omega), h, dec_small (by omega)]
    have e3 : m.toNat = m.toNat % 10 := by omega
    rw [e2, ← e3]; rfl
  · rw [if_pos (by omega), h, dec_big (by omega), e1, e2]
    simp

set_option maxHeartbeats 800000 in
theorem mark_any (k : Int) (w : World) (h0 : 0 < k) (h1 : k ≤ 16000000) :
    Calls Tryz.prog 33 #[.int .i64 k] w fun e w' => e = .returned (.string (mt k)) ∧ Below w.heap.size w w' := by
  go_enter Tryz.func33, Tryz.ntmps33
  go_wp2_with fail
  go_loopw [0, 3] (fun i s wr => ∃ (m : Int) (r : List UInt8), 0 ≤ m ∧ m ≤ k ∧ i = .int .i64 m ∧ s = .string ⟨r.toArray⟩ ∧ Mid k m r ∧ Below w.heap.size w wr) (fun i _ _ => (intOf i).toNat)
  case atStart => exact ⟨k, [], by omega, by omega, rfl, rfl, by unfold Mid; rw [if_pos h0]; simp, Below.refl _ _⟩
  case round =>
    obtain ⟨m, r, hm0, hm1, rfl, rfl, hd, hb⟩ := hrel
    have hbs := hb.size
    have hrl := mid_len hd h1
    have hrz : (ByteArray.mk r.toArray).size = r.length := by simp [ByteArray.size]
    obtain ⟨R, hR⟩ : ∃ R, ByteArray.mk r.toArray = R := ⟨_, rfl⟩
    have hRz : R.size ≤ 16000001 := by rw [← hR, hrz]; exact hrl
    rw [hR]
    have HD := Lib.hid hd
    have HR := Lib.hid hR
    clear hd hR hrz hrl
    by_cases hm : 0 < m
    · have p1 : 0 ≤ m % 10 := by omega
      have p2 : m % 10 < 10 := by omega
      have hcv := conv_one wr (m % 10) p1 p2
      go_wp2_with fail
      go_roundw
      case rel => exact ⟨m / 10, _, by omega, by omega, rfl, by rw [← HR.out, one_join]; simp, mid_next HD.out hm, hb.alloc hbs _⟩
      case measure => simp [intOf]; omega
    · obtain rfl : m = 0 := by omega
      go_wp2_with fail
      go_ret
      refine ⟨?_, hb⟩
      have e := HD.out
      unfold Mid at e
      rw [if_neg (by omega)] at e
      rw [← HR.out, one_join, mt, e]
      rfl

/-- the marks from k on -/
def mks (k : Int) (i : Nat) : Value := .string (mt (k + i))

set_option maxHeartbeats 1600000 in
theorem markS_any (g n cap : Nat) (f : Nat → Value) (k : Int) (w : World) (hr : w.rowIs g 9 cap f) (hc : n ≤ cap) (h0 : 0 < k) (h1 : k ≤ 8000000) (hn : n ≤ 8000000) :
    Calls Tryz.prog 36 #[.slice (some ⟨g, 0, none⟩) n cap, .int .i64 k] w fun e w' => e = .returned (.int .i64 (k + n)) ∧ w'.rowIs g 9 cap (fun x => if x < n then mks k x else f x) ∧ w.grownBy w' (some g) := by
  go_enter Tryz.func36, Tryz.ntmps36
  go_wp2_with fail
  go_loopw [1, 5] (fun q i wr => ∃ j : Nat, j ≤ n ∧ i = .int .i64 j ∧ q = .int .i64 (k + j) ∧ wr.rowIs g 9 cap (fun x => if x < j then mks k x else f x) ∧ w.grownBy wr (some g)) (fun _ i _ => n - (intOf i).toNat)
  case atStart => exact ⟨0, Nat.zero_le _, rfl, by simp, hr.congr (fun _ _ => by simp), World.grownBy.refl w _⟩
  case round =>
    obtain ⟨j, hj, rfl, rfl, hrow, hgr⟩ := hrel
    by_cases hlt : j < n
    · go_wp2_with fail
      refine (mark_any (k + j) _ (by omega) (by omega)).mono ?_
      rintro e w1 ⟨rfl, hb⟩
      have hrow1 := hrow.of_block (hb.block g hrow.lt)
      have hcell := hrow1.cell (show j < cap by omega)
      have hfz := hrow1.frozen j
      have HRow := Lib.hid (hrow1.set j (.string (mt (k + j))))
      have HG := Lib.hid (only_below hgr hb)
      clear hrow hrow1 hgr hb
      go_wp2_with fail
      go_roundw
      case rel =>
        refine ⟨j + 1, by omega, by go_num, by go_num, HRow.out.congr (fun x hx => ?_), only_set HG.out _ _⟩
        show (if x = j then _ else if x < j then _ else _) = if x < j + 1 then _ else _
        by_cases e : x = j
        · subst e; rw [if_pos rfl, if_pos (by omega)]; rfl
        · rw [if_neg e]
          by_cases e2 : x < j
          · rw [if_pos e2, if_pos (by omega)]
          · rw [if_neg e2, if_neg (by omega)]
      case measure => simp [intOf]; omega
    · obtain rfl : j = n := by omega
      go_wp2_with fail
      go_ret
      exact ⟨rfl, hrow, hgr⟩

set_option maxHeartbeats 1600000 in
theorem heldS_any (g n cap : Nat) (k : Int) (w : World) (f : Nat → Value) (hr : w.rowIs g 9 cap f) (hf : ∀ x, x < n → f x = mks k x) (hc : n ≤ cap) (h0 : 0 < k) (h1 : k ≤ 8000000) (hn : n ≤ 8000000) :
    Calls Tryz.prog 40 #[.slice (some ⟨g, 0, none⟩) n cap, .int .i64 k] w fun e w' => e = .returned (.int .i64 (k + n)) ∧ Below w.heap.size w w' := by
  have hgw := hr.lt
  have HF := Lib.hid hf
  clear hf
  go_enter Tryz.func40, Tryz.ntmps40
  go_wp2_with fail
  go_loopw [1, 5] (fun q i wr => ∃ j : Nat, j ≤ n ∧ i = .int .i64 j ∧ q = .int .i64 (k + j) ∧ Below w.heap.size w wr) (fun _ i _ => n - (intOf i).toNat)
  case atStart => exact ⟨0, Nat.zero_le _, rfl, by simp, Below.refl _ _⟩
  case round =>
    obtain ⟨j, hj, rfl, rfl, hb⟩ := hrel
    have hbs := hb.size
    by_cases hlt : j < n
    · have hcell2 : wr.cell? ⟨g, j, none⟩ = some (.string (mt (k + j))) := (hb.cell (p := ⟨g, j, none⟩) hgw).trans ((hr.cell (show j < cap by omega)).trans (by rw [HF.out j hlt]; rfl))
      have p1 : 0 < k + j := by omega
      have p2 : k + j ≤ 16000000 := by omega
      go_wp2_with fail
      have hj0 : (0 : Int) ≤ (j : Int) := Int.natCast_nonneg _
      have hj1 : (j : Int) < (n : Int) := by omega
      have hgr : g < wr.heap.size := by omega
      go_region_held3 (fun w' => w'.cell? ⟨g, j, none⟩ = some (.string (mt (k + j)))) (first | go_keep | (rw [hb1.cell (by simp; omega)]; assumption)) ((go_at_call 33; refine (mark_any (k + j) _ p1 p2).mono ?_; rintro e w1 ⟨rfl, hb1⟩))
      have HB := Lib.hid ((hb.drew).trans (hb1.mono (show w.heap.size ≤ wr.drew.heap.size from hbs)))
      clear hb1
      go_wp2_with fail
      go_roundw
      case rel => exact ⟨j + 1, by omega, by go_num, by go_num, HB.out⟩
      case measure => simp [intOf]; omega
    · obtain rfl : j = n := by omega
      go_wp2_with fail
      go_ret
      exact ⟨rfl, hb⟩
end Go.Proofs.YtlpgldejmdiceabGreat.marks
end

section
namespace Go.Proofs.YtlpgldejmdiceabGreat.eqs
open kit strs
open Go.RowKit

set_option maxHeartbeats 800000 in
theorem eq_any (A A' : Option Addr) (n c c' : Nat) (ss : List ByteArray) (w : World) (B B' : Nat) (h : SR w B A n (ss.map Value.string)) (h' : SR w B' A' n (ss.map Value.string)) (hn : n ≤ 1048576) :
    Calls Tryz.prog 30 #[.slice A n c, .slice A' n c'] w fun e w' => e = .returned (.bool true) ∧ Dr w w' := by
  go_enter Tryz.func30, Tryz.ntmps30
  go_wp2_with fail
  go_loopw [5] (fun i wr => ∃ k : Nat, k ≤ n ∧ i = .int .i64 k ∧ Dr w wr) (fun i _ => n - (intOf i).toNat)
  case atStart => exact ⟨0, Nat.zero_le _, rfl, Dr.refl w⟩
  case round =>
    obtain ⟨k, hk, rfl, hdr⟩ := hrel
    by_cases hlt : k < n
    · obtain ⟨b, off, s, rfl, hb, hsk, hc⟩ := h.str hlt
      obtain ⟨b', off', s', rfl, hb', hsk', hc'⟩ := h'.str hlt
      rw [hsk] at hsk'
      injection hsk' with e
      subst e
      have hcell : wr.cell? ⟨b, off + k, none⟩ = some (.string s) := (hdr.cell _).trans hc
      have hcell' : wr.cell? ⟨b', off' + k, none⟩ = some (.string s) := (hdr.cell _).trans hc'
      clear hsk hc hc'
      go_wp2_with fail
      go_quiet (fail)
      go_wp2_with fail
      go_roundw
      case rel => exact ⟨k + 1, by omega, by go_num, hdr.more _⟩
      case measure => simp [intOf]; omega
    · go_wp2_with fail
      go_ret
      exact ⟨rfl, hdr⟩
end Go.Proofs.YtlpgldejmdiceabGreat.eqs
end

section
namespace Go.Proofs.YtlpgldejmdiceabGreat.hc
open kit bg opn only marks
set_option linter.unusedVariables false
open Go.ChangeShapes Go.WideShapes Go.ChangeAt Go.RowKit

/-- a number of the answer's own, told as an equation -/
theorem ret_i {k : IntKind} {a b : Int} (h : a = b) : Ending.returned (.int k a) = .returned (.int k b) := by rw [h]

set_option maxHeartbeats 400000 in
theorem szC_any (s : ByteArray) (p q left : Int) (w : World) (hl0 : -1 ≤ left) (hl : left ≤ 1048576) (hs : s.size ≤ maxLen) :
    Calls Tryz.prog 17 #[.agg #[.string s, .int .i64 p, .int .i64 q], .int .i64 left] w fun e w' => e = .returned (.int .i64 (if left - s.size < 0 then -1 else left - s.size)) ∧ Below w.heap.size w w' := by
  unfold maxLen at hs
  by_cases h : left - (s.size : Int) < 0
  · have e : (if left - (s.size : Int) < 0 then -1 else left - s.size) = -1 := if_pos h
    rw [e]
    clear e
    go_enter Tryz.func17, Tryz.ntmps17
    go_wp2
    go_ret
    exact ⟨rfl, (Below.refl _ _).alloc (Nat.le_refl _) _⟩
  · have e : (if left - (s.size : Int) < 0 then -1 else left - s.size) = left - s.size := if_neg h
    have h' : 0 ≤ left - (s.size : Int) := by omega
    rw [e]
    clear e
    go_enter Tryz.func17, Tryz.ntmps17
    go_wp2
    go_ret
    exact ⟨rfl, (Below.refl _ _).alloc (Nat.le_refl _) _⟩

theorem ctl_info : (Tryz.prog.info? 57).map (fun i => (i.zero, i.size, i.bytes)) = some (some (.agg #[.string ⟨#[]⟩, .int .i64 0, .int .i64 0]), 3, 32) := by kernel_rfl

set_option maxHeartbeats 400000 in
theorem toC_any (s : ByteArray) (p q : Int) (w : World) :
    Calls Tryz.prog 23 #[.agg #[.string s, .int .i64 p, .int .i64 q]] w fun e w' => e = .returned (.agg #[.string s, .int .i64 p, .int .i64 q]) ∧ Below w.heap.size w w' := by
  go_enter Tryz.func23, Tryz.ntmps23
  go_wp2
  exact bodyPost_ret (v := .agg #[.string s, .int .i64 p, .int .i64 q]) (by simp [results, Tryz.results23, go_sem]) rfl ⟨rfl, (((Below.refl _ _).alloc (Nat.le_refl _) _).alloc (by simp) _).alloc (by simp; omega) _⟩

set_option maxHeartbeats 400000 in
theorem eqC_any (s : ByteArray) (p q : Int) (w : World) :
    Calls Tryz.prog 32 #[.agg #[.string s, .int .i64 p, .int .i64 q], .agg #[.string s, .int .i64 p, .int .i64 q]] w fun e w' => e = .returned (.bool true) ∧ Below w.heap.size w w' := by
  go_enter Tryz.func32, Tryz.ntmps32
  go_wp2
  go_ret
  exact ⟨rfl, ((Below.refl _ _).alloc (Nat.le_refl _) _).alloc (by simp) _⟩

set_option maxRecDepth 20000 in
set_option maxHeartbeats 800000 in
theorem eqCS_any (A A' : Option Addr) (n c c' : Nat) (cs : List Ctl) (w : World) (B B' : Nat) (h : CtlsAt w B A n cs) (h' : CtlsAt w B' A' n cs) (hB : B ≤ w.heap.size) (hB' : B' ≤ w.heap.size) (hn : n ≤ 1048576) :
    Calls Tryz.prog 11 #[.slice A n c, .slice A' n c'] w fun e w' => e = .returned (.bool true) ∧ Below w.heap.size w w' := by
  go_enter Tryz.func11, Tryz.ntmps11
  go_wp2_with fail
  go_loopw [5] (fun i wr => ∃ k : Nat, k ≤ n ∧ i = .int .i64 k ∧ Below w.heap.size w wr) (fun i _ => n - (intOf i).toNat)
  case atStart => exact ⟨0, Nat.zero_le _, rfl, Below.refl _ _⟩
  case round =>
    obtain ⟨k, hk, rfl, hb⟩ := hrel
    by_cases hlt : k < n
    · obtain ⟨b, off, x, rfl, hbb, hx, c0, c1, c2⟩ := h.get hlt
      obtain ⟨b', off', x', rfl, hbb', hx', c0', c1', c2'⟩ := h'.get hlt
      rw [hx] at hx'
      injection hx' with e
      subst e
      have d0 := (hb.cell (p := ⟨b, off + k * 3, none⟩) (show b < w.heap.size by omega)).trans c0
      have d1 := (hb.cell (p := ⟨b, off + k * 3 + 1, none⟩) (show b < w.heap.size by omega)).trans c1
      have d2 := (hb.cell (p := ⟨b, off + k * 3 + 2, none⟩) (show b < w.heap.size by omega)).trans c2
      have d0' := (hb.cell (p := ⟨b', off' + k * 3, none⟩) (show b' < w.heap.size by omega)).trans c0'
      have d1' := (hb.cell (p := ⟨b', off' + k * 3 + 1, none⟩) (show b' < w.heap.size by omega)).trans c1'
      have d2' := (hb.cell (p := ⟨b', off' + k * 3 + 2, none⟩) (show b' < w.heap.size by omega)).trans c2'
      clear hx c0 c1 c2 c0' c1' c2'
      go_wp2_with fail
      go_still_tail 8, (by kernel_rfl)
      change wpList _ _ _ _ _ wr.drew
      obtain ⟨w2, hw2⟩ : ∃ w2, wr.drew = w2 := ⟨_, rfl⟩
      have hb2 : Below w.heap.size w w2 := hw2 ▸ hb.drew
      rw [hw2]
      clear hw2
      go_wp2_with fail
      refine (eqC_any _ _ _ _).mono ?_
      rintro e w3 ⟨rfl, hb3⟩
      have hb3' := hb2.trans (hb3.mono hb2.size)
      clear hb3
      go_wp2_with fail
      go_roundw
      case rel => exact ⟨k + 1, by omega, by go_num, hb3'⟩
      case measure => simp [intOf]; omega
    · go_wp2_with fail
      go_ret
      exact ⟨rfl, hb⟩

/-- how much a signature takes -/
def ctlsWt (cs : List Ctl) : Nat := cs.length + sumBy (fun c => c.name.size) cs

set_option maxHeartbeats 800000 in
theorem szCS_any (A : Option Addr) (n c : Nat) (cs : List Ctl) (left : Int) (w : World) (B : Nat) (h : CtlsAt w B A n cs) (hB : B ≤ w.heap.size) (hl0 : -1 ≤ left) (hl : left ≤ 1048576) (hw : CtlsW cs) :
    Calls Tryz.prog 4 #[.slice A n c, .int .i64 left] w (szP (ctlsWt cs) left w) := by
  have HL := Lib.hid h.1
  have hn : n ≤ maxLen := by have := hw.1; have := h.1; omega
  have HW := Lib.hid hw
  clear hw
  unfold maxLen at hn
  by_cases hneg : left - (n : Int) < 0
  · go_enter Tryz.func4, Tryz.ntmps4
    go_wp2_with fail
    go_ret
    exact ⟨-1, rfl, .inl (by omega), by omega, by omega, Below.refl _ _⟩
  · have hneg' : ¬ (left - (n : Int) < 0) := hneg
    go_enter Tryz.func4, Tryz.ntmps4
    go_wp2_with fail
    go_loopw [1, 5] (fun l i wr => ∃ k : Nat, k ≤ n ∧ i = .int .i64 k ∧ l = .int .i64 (left - n - sumBy (fun c : Ctl => c.name.size) (cs.take k)) ∧ 0 ≤ left - n - sumBy (fun c : Ctl => c.name.size) (cs.take k) ∧ Below w.heap.size w wr) (fun _ i _ => n - (intOf i).toNat)
    case atStart => exact ⟨0, Nat.zero_le _, rfl, by simp [sumBy], by simp [sumBy]; omega, Below.refl _ _⟩
    case round =>
      obtain ⟨k, hk, rfl, rfl, h0, hb⟩ := hrel
      by_cases hlt : k < n
      · obtain ⟨b, off, x, rfl, hbb, hx, c0, c1, c2⟩ := h.get hlt
        have d0 := (hb.cell (p := ⟨b, off + k * 3, none⟩) (show b < w.heap.size by omega)).trans c0
        have d1 := (hb.cell (p := ⟨b, off + k * 3 + 1, none⟩) (show b < w.heap.size by omega)).trans c1
        have d2 := (hb.cell (p := ⟨b, off + k * 3 + 2, none⟩) (show b < w.heap.size by omega)).trans c2
        have hxs : x.name.size ≤ maxLen := (HW.out.2 x (List.mem_of_getElem? hx)).1
        have HT := Lib.hid (sumBy_snoc (fun c : Ctl => c.name.size) hx)
        obtain ⟨T, hT⟩ : ∃ T, sumBy (fun c : Ctl => c.name.size) (cs.take k) = T := ⟨_, rfl⟩
        have HTe := Lib.hid hT
        rw [hT] at h0 ⊢
        clear hx c0 c1 c2 hT
        by_cases hfit : left - (n : Int) - T - x.name.size < 0
        · have C := szC_any x.name x.ports x.kind (left - (n : Int) - T) wr (by omega) (by omega) hxs
          rw [if_pos hfit] at C
          go_wp2_with fail
          refine C.mono ?_
          rintro e w1 ⟨rfl, hb1⟩
          have hb2 := hb.trans (hb1.mono hb.size)
          clear hb1 C
          go_wp2_with fail
          go_ret
          exact ⟨-1, rfl, .inl (by omega), by omega, by omega, hb2⟩
        · have hfit' : 0 ≤ left - (n : Int) - T - x.name.size := by omega
          have C := szC_any x.name x.ports x.kind (left - (n : Int) - T) wr (by omega) (by omega) hxs
          rw [if_neg hfit] at C
          go_wp2_with fail
          refine C.mono ?_
          rintro e w1 ⟨rfl, hb1⟩
          have hb2 := hb.trans (hb1.mono hb.size)
          clear hb1 C
          go_wp2_with fail
          go_roundw
          case rel => exact ⟨k + 1, by omega, by go_num, by rw [HT.out, HTe.out]; go_num, by rw [HT.out, HTe.out]; omega, hb2⟩
          case measure => simp [intOf]; omega
      · go_wp2_with fail
        go_ret
        have hkn : k = n := by omega
        subst hkn
        refine ⟨left - k - sumBy (fun c : Ctl => c.name.size) (cs.take k), rfl, .inr ?_, by omega, by omega, hb⟩
        rw [List.take_of_length_le (by rw [HL.out]; omega)]
        unfold ctlsWt
        rw [HL.out]
        omega

/-- a signature in memory of the call's own -/
def CtlsOwn (w : World) (lo hi : Nat) (A : Option Addr) (n : Nat) (cs : List Ctl) : Prop :=
  cs.length = n ∧ ∃ g f, A = some ⟨g, 0, none⟩ ∧ lo ≤ g ∧ g < hi ∧ w.rowIs g 57 (n * 3) f ∧ ∀ (k : Nat) c, cs[k]? = some c → f (k * 3) = .string c.name ∧ f (k * 3 + 1) = .int .i64 c.ports ∧ f (k * 3 + 2) = .int .i64 c.kind
theorem CtlsOwn.at {w : World} {lo hi : Nat} {A : Option Addr} {n : Nat} {cs : List Ctl} (h : CtlsOwn w lo hi A n cs) : CtlsAt w hi A n cs := by
  obtain ⟨hl, g, f, rfl, h1, h2, hr, hf⟩ := h
  refine ⟨hl, fun _ => ⟨g, 0, rfl, h2, fun k c hk => ?_⟩⟩
  have hkn : k < n := by have := (List.getElem?_eq_some_iff.1 hk).1; omega
  obtain ⟨e0, e1, e2⟩ := hf k c hk
  rw [Nat.zero_add]
  exact ⟨by rw [hr.cell (show k * 3 < n * 3 by omega), e0], by rw [hr.cell (show k * 3 + 1 < n * 3 by omega), e1], by rw [hr.cell (show k * 3 + 2 < n * 3 by omega), e2]⟩
theorem CtlsOwn.below {w w' : World} {lo hi B : Nat} {A : Option Addr} {n : Nat} {cs : List Ctl} (h : CtlsOwn w lo hi A n cs) (hb : Below B w w') (hB : hi ≤ B) : CtlsOwn w' lo hi A n cs := by
  obtain ⟨hl, g, f, rfl, h1, h2, hr, hf⟩ := h
  exact ⟨hl, g, f, rfl, h1, h2, hr.of_block (hb.block g (by omega)), hf⟩
theorem CtlsOwn.rows {w : World} {lo hi : Nat} {A : Option Addr} {n : Nat} {cs : List Ctl} (h : CtlsOwn w lo hi A n cs) : ∃ g f, A = some ⟨g, 0, none⟩ ∧ lo ≤ g ∧ g < hi ∧ w.rowIs g 57 (n * 3) f := by
  obtain ⟨hl, g, f, rfl, h1, h2, hr, hf⟩ := h
  exact ⟨g, f, rfl, h1, h2, hr⟩

set_option maxHeartbeats 800000 in
theorem toCS_any (A : Option Addr) (n c : Nat) (cs : List Ctl) (w : World) (h : CtlsAt w w.heap.size A n cs) (hn : n ≤ 1048576) :
    Calls Tryz.prog 7 #[.slice A n c] w fun e w' => ∃ g, e = .returned (.slice (some ⟨g, 0, none⟩) n n) ∧ CtlsOwn w' w.heap.size w'.heap.size (some ⟨g, 0, none⟩) n cs ∧ Below w.heap.size w w' := by
  have HL := Lib.hid h.1
  have hmk : ∀ W : World, (Instr.makeSlice 34 (.int .i64 (n : Int)) (.int .i64 (n : Int))).run Tryz.prog W = .ok (.slice (some ⟨W.heap.size, 0, none⟩) n n) (W.alloc (.cells (madeCells #[.string ⟨#[]⟩, .int .i64 0, .int .i64 0] (n * 3)) 57)) := by
    intro W
    obtain ⟨i0, hi, hz0, hz1, hz2⟩ := info_parts ctl_info
    have hr := run_make (P := Tryz.prog) W 34 57 i0 _ Tryz.underlying34 hi hz0 .i64 .i64 n n (by omega) (Int.le_refl _) (by rw [hz2]; omega) (by omega)
    simp only [Int.toNat_natCast, hz1] at hr
    exact hr
  go_enter Tryz.func7, Tryz.ntmps7
  go_wp2_with fail
  clear hmk
  go_loopw [4] (fun i wr => ∃ k : Nat, k ≤ n ∧ i = .int .i64 k ∧ (∃ f, wr.rowIs w.heap.size 57 (n * 3) f ∧ ∀ (j : Nat) c, j < k → cs[j]? = some c → f (j * 3) = .string c.name ∧ f (j * 3 + 1) = .int .i64 c.ports ∧ f (j * 3 + 2) = .int .i64 c.kind) ∧ Below w.heap.size w wr) (fun i _ => n - (intOf i).toNat)
  case atStart => exact ⟨0, Nat.zero_le _, rfl, ⟨_, row_new w _ _ _ (size_madeCells _ _), fun j c hj => absurd hj (Nat.not_lt_zero j)⟩, (Below.refl _ _).alloc (Nat.le_refl _) _⟩
  case round =>
    obtain ⟨k, hk, rfl, ⟨f, hrow, hf⟩, hbel⟩ := hrel
    have hlt0 := hrow.lt
    by_cases hlt : k < n
    · obtain ⟨b, off, x, rfl, hbb, hx, c0, c1, c2⟩ := h.get hlt
      have d0 := (hbel.cell (p := ⟨b, off + k * 3, none⟩) hbb).trans c0
      have d1 := (hbel.cell (p := ⟨b, off + k * 3 + 1, none⟩) hbb).trans c1
      have d2 := (hbel.cell (p := ⟨b, off + k * 3 + 2, none⟩) hbb).trans c2
      have HX := Lib.hid hx
      have HF := Lib.hid hf
      clear hx c0 c1 c2 hf
      go_wp2_with fail
      refine (toC_any _ _ _ _).mono ?_
      rintro e w1 ⟨rfl, hb1⟩
      have hbel1 := hbel.trans (hb1.mono hbel.size)
      have hrow1 := hrow.of_block (hb1.block _ hlt0)
      have z0 := hrow1.cell (show k * 3 < n * 3 by omega)
      have z1 := hrow1.cell (show k * 3 + 1 < n * 3 by omega)
      have z2 := hrow1.cell (show k * 3 + 2 < n * 3 by omega)
      have f0 := hrow1.frozen (k * 3)
      have f1 := hrow1.frozen (k * 3 + 1)
      have f2 := hrow1.frozen (k * 3 + 2)
      have HR := Lib.hid (put3_row hrow1 k (.string x.name) (.int .i64 x.ports) (.int .i64 x.kind))
      have HB := Lib.hid (put3_below hbel1 (Nat.le_refl _) k (.string x.name) (.int .i64 x.ports) (.int .i64 x.kind))
      clear hb1 hbel1 hrow hrow1 hbel
      go_wp2_with fail
      go_roundw
      case rel =>
        refine ⟨k + 1, by omega, by go_num, ⟨_, HR.out, fun j y hj hy => ?_⟩, HB.out⟩
        by_cases e : j = k
        · subst e
          rw [HX.out] at hy
          injection hy with hy
          subst hy
          exact put3_new
        · obtain ⟨p0, p1, p2⟩ := put3_old (f := f) (k := k) (j := j) (a := .string x.name) (b := .int .i64 x.ports) (c := .int .i64 x.kind) (by omega)
          rw [p0, p1, p2]
          exact HF.out j y (by omega) hy
      case measure => simp [intOf]; omega
    · go_wp2_with fail
      go_ret
      obtain rfl : k = n := by omega
      exact ⟨w.heap.size, rfl, ⟨HL.out, w.heap.size, f, rfl, Nat.le_refl _, hlt0, hrow, fun j c hj => hf j c (by have := (List.getElem?_eq_some_iff.1 hj).1; rw [HL.out] at this; exact this) hj⟩, hbel⟩

set_option maxHeartbeats 1600000 in
theorem markCS_any (g n c : Nat) (f0 : Nat → Value) (k : Int) (w : World) (lo hi : Nat) (hr : w.rowIs g 57 (n * 3) f0) (hlo : lo ≤ g) (hhi : g < hi) (h0 : 0 < k) (h1 : k ≤ 8000000) (hn : n ≤ 1048576) :
    Calls Tryz.prog 13 #[.slice (some ⟨g, 0, none⟩) n c, .int .i64 k] w fun e w' => e = .returned (.int .i64 (k + 3 * n)) ∧ Only lo hi w w' := by
  go_enter Tryz.func13, Tryz.ntmps13
  go_wp2_with fail
  go_loopw [1, 5] (fun q i wr => ∃ j : Nat, j ≤ n ∧ i = .int .i64 j ∧ q = .int .i64 (k + 3 * j) ∧ (∃ f, wr.rowIs g 57 (n * 3) f) ∧ w.grownBy wr (some g)) (fun _ i _ => n - (intOf i).toNat)
  case atStart => exact ⟨0, Nat.zero_le _, rfl, by simp, ⟨f0, hr⟩, World.grownBy.refl w _⟩
  case round =>
    obtain ⟨j, hj, rfl, rfl, ⟨f, hrow⟩, hgr⟩ := hrel
    by_cases hlt : j < n
    · go_wp2_with fail
      refine (mark_any (k + 3 * j) _ (by omega) (by omega)).mono ?_
      rintro e w1 ⟨rfl, hb⟩
      have hrow1 := hrow.of_block (hb.block g hrow.lt)
      have z0 := hrow1.cell (show j * 3 < n * 3 by omega)
      have z1 := hrow1.cell (show j * 3 + 1 < n * 3 by omega)
      have z2 := hrow1.cell (show j * 3 + 2 < n * 3 by omega)
      have f0 := hrow1.frozen (j * 3)
      have f1 := hrow1.frozen (j * 3 + 1)
      have f2 := hrow1.frozen (j * 3 + 2)
      have HRow := Lib.hid (put3_row hrow1 j (.string (mt (k + 3 * j))) (.int .i64 (k + 3 * j + 1)) (.int .i64 (k + 3 * j + 1 + 1)))
      have HG := Lib.hid (only_set (only_set (only_set (only_below hgr hb) (j * 3) (.string (mt (k + 3 * j)))) (j * 3 + 1) (.int .i64 (k + 3 * j + 1))) (j * 3 + 2) (.int .i64 (k + 3 * j + 1 + 1)))
      clear hrow hrow1 hgr hb
      go_wp2_with fail
      go_roundw
      case rel => exact ⟨j + 1, by omega, by go_num, by go_num, ⟨_, HRow.out⟩, HG.out⟩
      case measure => simp [intOf]; omega
    · obtain rfl : j = n := by omega
      go_wp2_with fail
      go_ret
      exact ⟨rfl, Only.of_grown hgr hr hrow hlo hhi⟩
end Go.Proofs.YtlpgldejmdiceabGreat.hc
end

section
namespace Go.Proofs.YtlpgldejmdiceabGreat.hi
open kit bg opn only marks
open Go.RowKit
set_option linter.unusedVariables false

theorem szI_any (A : Option Addr) (n c : Nat) (left : Int) (w : World) (hl0 : -1 ≤ left) (hl : left ≤ 1048576) (hn : n ≤ maxLen) :
    Calls Tryz.prog 43 #[.slice A n c, .int .i64 left] w (szP n left w) := by
  unfold maxLen at hn
  by_cases h : left - (n : Int) < 0
  · go_enter Tryz.func43, Tryz.ntmps43
    go_wp2
    go_ret
    exact ⟨-1, rfl, .inl (by omega), by omega, by omega, Below.refl _ _⟩
  · have h' : 0 ≤ left - (n : Int) := by omega
    go_enter Tryz.func43, Tryz.ntmps43
    go_wp2
    go_ret
    exact ⟨left - n, rfl, .inr rfl, by omega, by omega, Below.refl _ _⟩

theorem int_info : (Tryz.prog.info? 3).map (fun i => (i.zero, i.size, i.bytes)) = some (some (.int .i64 0), 1, 8) := by kernel_rfl
/-- the k-th of these numbers, as a cell -/
def iat (zs : List Int) (i : Nat) : Value := .int .i64 (zs.getD i 0)
theorem iat_of {zs : List Int} {k : Nat} {z : Int} (h : zs[k]? = some z) : iat zs k = .int .i64 z := by simp [iat, List.getD, h]

set_option maxHeartbeats 800000 in
theorem toIS_any (A : Option Addr) (n c : Nat) (zs : List Int) (w : World) (h : IntsAt w w.heap.size A n zs) (hn : n ≤ 1048576) :
    Calls Tryz.prog 57 #[.slice A n c] w fun e w' => e = .returned (.slice (some ⟨w.heap.size, 0, none⟩) n n) ∧ w'.rowIs w.heap.size 3 n (iat zs) ∧ Below w.heap.size w w' := by
  have hmk := fun W => run_make_row' (P := Tryz.prog) 27 3 (.int .i64 0) 8 Tryz.underlying27 int_info rfl .i64 .i64 n (by omega) (by omega) W
  go_enter Tryz.func57, Tryz.ntmps57
  go_wp2
  clear hmk
  go_loopw [4] (fun i wr => ∃ k : Nat, k ≤ n ∧ i = .int .i64 k ∧ wr.rowIs w.heap.size 3 n (fun j => if j < k then iat zs j else .int .i64 0) ∧ Below w.heap.size w wr) (fun i _ => n - (intOf i).toNat)
  case atStart => exact ⟨0, Nat.zero_le _, rfl, (World.rowIs_made w (.int .i64 0) n 3).congr (fun _ _ => by simp), (Below.refl _ _).alloc (Nat.le_refl _) _⟩
  case round =>
    obtain ⟨k, hk, rfl, hrow, hbel⟩ := hrel
    have hlt := hrow.lt
    by_cases hkn : k < n
    · obtain ⟨b, off, s, rfl, hb, hsk, hc⟩ := h.get hkn
      have hcell : wr.cell? ⟨b, off + k, none⟩ = some (.int .i64 s) := (hbel.cell (p := ⟨b, off + k, none⟩) hb).trans hc
      have hcell2 := hrow.cell hkn
      have hfz := hrow.frozen k
      have HA : Hid (iat zs k = .int .i64 s) := Lib.hid (iat_of hsk)
      have HR := Lib.hid (hrow.set k (.int .i64 s))
      have HB := Lib.hid (hbel.setCell (p := ⟨w.heap.size, k, none⟩) (Nat.le_refl _) (.int .i64 s))
      clear hrow hbel hsk hc
      go_wp2
      go_roundw
      case rel =>
        refine ⟨k + 1, by omega, by go_num, HR.out.congr (fun j hj => ?_), HB.out⟩
        show (if j = k then _ else if j < k then _ else _) = if j < k + 1 then _ else _
        by_cases e : j = k
        · subst e; rw [if_pos rfl, if_pos (by omega), HA.out]
        · rw [if_neg e]
          by_cases e2 : j < k
          · rw [if_pos e2, if_pos (by omega)]
          · rw [if_neg e2, if_neg (by omega)]
      case measure => simp [intOf]; omega
    · go_wp2
      go_ret
      exact ⟨rfl, hrow.congr (fun j hj => by show (if j < k then _ else _) = _; rw [if_pos (by omega)]), hbel⟩

theorem toIS_ex (A : Option Addr) (n c : Nat) (zs : List Int) (w : World) (h : IntsAt w w.heap.size A n zs) (hn : n ≤ 1048576) :
    Calls Tryz.prog 57 #[.slice A n c] w fun e w' => ∃ g, e = .returned (.slice (some ⟨g, 0, none⟩) n n) ∧ w.heap.size ≤ g ∧ g < w'.heap.size ∧ w'.rowIs g 3 n (iat zs) ∧ Below w.heap.size w w' :=
  (toIS_any A n c zs w h hn).mono fun e w' ⟨he, hr, hb⟩ => ⟨_, he, Nat.le_refl _, hr.lt, hr, hb⟩

theorem ints_row {w : World} {b B m n : Nat} {t : TypeId} {f : Nat → Value} {zs : List Int} (h : w.rowIs b t m f) (hm : n ≤ m) (hb : b < B) (hl : zs.length = n) (hf : ∀ k, k < n → f k = iat zs k) : IntsAt w B (some ⟨b, 0, none⟩) n zs :=
  SR.of_row2 h hm hb (fun k u hu => by
    rw [List.getElem?_map] at hu
    obtain ⟨z, hz, rfl⟩ := Option.map_eq_some_iff.1 hu
    have hk : k < n := by have := (List.getElem?_eq_some_iff.1 hz).1; omega
    exact ⟨hk, (hf k hk).trans (iat_of hz)⟩) (by simpa using hl)

set_option maxHeartbeats 800000 in
theorem eqIS_any (A A' : Option Addr) (n c c' : Nat) (zs : List Int) (w : World) (B B' : Nat) (h : IntsAt w B A n zs) (h' : IntsAt w B' A' n zs) (hn : n ≤ maxLen) :
    Calls Tryz.prog 29 #[.slice A n c, .slice A' n c'] w fun e w' => e = .returned (.bool true) ∧ Dr w w' := by
  unfold maxLen at hn
  go_enter Tryz.func29, Tryz.ntmps29
  go_wp2_with fail
  go_loopw [5] (fun i wr => ∃ k : Nat, k ≤ n ∧ i = .int .i64 k ∧ Dr w wr) (fun i _ => n - (intOf i).toNat)
  case atStart => exact ⟨0, Nat.zero_le _, rfl, Dr.refl w⟩
  case round =>
    obtain ⟨k, hk, rfl, hdr⟩ := hrel
    by_cases hlt : k < n
    · obtain ⟨b, off, s, rfl, hb, hsk, hc⟩ := h.get hlt
      obtain ⟨b', off', s', rfl, hb', hsk', hc'⟩ := h'.get hlt
      rw [hsk] at hsk'
      injection hsk' with e
      subst e
      have hcell : wr.cell? ⟨b, off + k, none⟩ = some (.int .i64 s) := (hdr.cell _).trans hc
      have hcell' : wr.cell? ⟨b', off' + k, none⟩ = some (.int .i64 s) := (hdr.cell _).trans hc'
      clear hsk hc hc'
      go_wp2_with fail
      go_quiet (fail)
      go_wp2_with fail
      go_roundw
      case rel => exact ⟨k + 1, by omega, by go_num, hdr.more _⟩
      case measure => simp [intOf]; omega
    · go_wp2_with fail
      go_ret
      exact ⟨rfl, hdr⟩

/-- the marks from k on -/
def mki (k : Int) (i : Nat) : Value := .int .i64 (k + i)

set_option maxHeartbeats 1600000 in
theorem markI_any (g n cap : Nat) (f : Nat → Value) (k : Int) (w : World) (hr : w.rowIs g 3 cap f) (hc : n ≤ cap) (h0 : 0 < k) (h1 : k ≤ 8000000) (hn : n ≤ 8000000) :
    Calls Tryz.prog 35 #[.slice (some ⟨g, 0, none⟩) n cap, .int .i64 k] w fun e w' => e = .returned (.int .i64 (k + n)) ∧ w'.rowIs g 3 cap (fun x => if x < n then mki k x else f x) ∧ w.grownBy w' (some g) := by
  go_enter Tryz.func35, Tryz.ntmps35
  go_wp2_with fail
  go_loopw [1, 5] (fun q i wr => ∃ j : Nat, j ≤ n ∧ i = .int .i64 j ∧ q = .int .i64 (k + j) ∧ wr.rowIs g 3 cap (fun x => if x < j then mki k x else f x) ∧ w.grownBy wr (some g)) (fun _ i _ => n - (intOf i).toNat)
  case atStart => exact ⟨0, Nat.zero_le _, rfl, by simp, hr.congr (fun _ _ => by simp), World.grownBy.refl w _⟩
  case round =>
    obtain ⟨j, hj, rfl, rfl, hrow, hgr⟩ := hrel
    by_cases hlt : j < n
    · have hcell := hrow.cell (show j < cap by omega)
      have hfz := hrow.frozen j
      have HRow := Lib.hid (hrow.set j (.int .i64 (k + j)))
      have HG := Lib.hid (only_set hgr j (.int .i64 (k + j)))
      clear hrow hgr
      go_wp2_with fail
      go_roundw
      case rel =>
        refine ⟨j + 1, by omega, by go_num, by go_num, HRow.out.congr (fun x hx => ?_), HG.out⟩
        show (if x = j then _ else if x < j then _ else _) = if x < j + 1 then _ else _
        by_cases e : x = j
        · subst e; rw [if_pos rfl, if_pos (by omega)]; rfl
        · rw [if_neg e]
          by_cases e2 : x < j
          · rw [if_pos e2, if_pos (by omega)]
          · rw [if_neg e2, if_neg (by omega)]
      case measure => simp [intOf]; omega
    · obtain rfl : j = n := by omega
      go_wp2_with fail
      go_ret
      exact ⟨rfl, hrow, hgr⟩

set_option maxHeartbeats 1600000 in
theorem heldI_any (g n cap : Nat) (k : Int) (w : World) (f : Nat → Value) (hr : w.rowIs g 3 cap f) (hf : ∀ x, x < n → f x = mki k x) (hc : n ≤ cap) (h0 : 0 < k) (h1 : k ≤ 8000000) (hn : n ≤ 8000000) :
    Calls Tryz.prog 39 #[.slice (some ⟨g, 0, none⟩) n cap, .int .i64 k] w fun e w' => e = .returned (.int .i64 (k + n)) ∧ Below w.heap.size w w' := by
  have HF := Lib.hid hf
  clear hf
  go_enter Tryz.func39, Tryz.ntmps39
  go_wp2_with fail
  go_loopw [1, 5] (fun q i wr => ∃ j : Nat, j ≤ n ∧ i = .int .i64 j ∧ q = .int .i64 (k + j) ∧ Dr w wr) (fun _ i _ => n - (intOf i).toNat)
  case atStart => exact ⟨0, Nat.zero_le _, rfl, by simp, Dr.refl _⟩
  case round =>
    obtain ⟨j, hj, rfl, rfl, hdr⟩ := hrel
    by_cases hlt : j < n
    · have hcell2 : wr.cell? ⟨g, j, none⟩ = some (.int .i64 (k + j)) := (hdr.cell _).trans ((hr.cell (show j < cap by omega)).trans (by rw [HF.out j hlt]; rfl))
      go_wp2_with fail
      try go_quiet (fail)
      go_wp2_with fail
      go_roundw
      case rel => exact ⟨j + 1, by omega, by go_num, by go_num, by first | exact hdr.more _ | exact hdr⟩
      case measure => simp [intOf]; omega
    · obtain rfl : j = n := by omega
      go_wp2_with fail
      go_ret
      exact ⟨rfl, hdr.below _⟩
end Go.Proofs.YtlpgldejmdiceabGreat.hi
end

section
namespace Go.Proofs.YtlpgldejmdiceabGreat.hw
open kit bg opn only marks hc
open Go.ChangeShapes Go.WideShapes Go.ChangeAt Go.RowKit
set_option linter.unusedVariables false

set_option maxHeartbeats 400000 in
theorem szW_any (s : ByteArray) (p left : Int) (w : World) (hl0 : -1 ≤ left) (hl : left ≤ 1048576) (hs : s.size ≤ maxLen) :
    Calls Tryz.prog 70 #[.agg #[.string s, .int .i64 p], .int .i64 left] w fun e w' => e = .returned (.int .i64 (if left - s.size < 0 then -1 else left - s.size)) ∧ Below w.heap.size w w' := by
  unfold maxLen at hs
  by_cases h : left - (s.size : Int) < 0
  · have e : (if left - (s.size : Int) < 0 then -1 else left - s.size) = -1 := if_pos h
    rw [e]
    clear e
    go_enter Tryz.func70, Tryz.ntmps70
    go_wp2
    go_ret
    exact ⟨rfl, (Below.refl _ _).alloc (Nat.le_refl _) _⟩
  · have e : (if left - (s.size : Int) < 0 then -1 else left - s.size) = left - s.size := if_neg h
    have h' : 0 ≤ left - (s.size : Int) := by omega
    rw [e]
    clear e
    go_enter Tryz.func70, Tryz.ntmps70
    go_wp2
    go_ret
    exact ⟨rfl, (Below.refl _ _).alloc (Nat.le_refl _) _⟩

theorem wire_info : (Tryz.prog.info? 80).map (fun i => (i.zero, i.size, i.bytes)) = some (some (.agg #[.string ⟨#[]⟩, .int .i64 0]), 2, 24) := by kernel_rfl

set_option maxHeartbeats 400000 in
theorem toW_any (s : ByteArray) (p : Int) (w : World) :
    Calls Tryz.prog 79 #[.agg #[.string s, .int .i64 p]] w fun e w' => e = .returned (.agg #[.string s, .int .i64 p]) ∧ Below w.heap.size w w' := by
  go_enter Tryz.func79, Tryz.ntmps79
  go_wp2
  exact bodyPost_ret (v := .agg #[.string s, .int .i64 p]) (by simp [results, Tryz.results79, go_sem]) rfl ⟨rfl, (((Below.refl _ _).alloc (Nat.le_refl _) _).alloc (by simp) _).alloc (by simp; omega) _⟩

set_option maxHeartbeats 400000 in
theorem eqW_any (s : ByteArray) (p : Int) (w : World) :
    Calls Tryz.prog 68 #[.agg #[.string s, .int .i64 p], .agg #[.string s, .int .i64 p]] w fun e w' => e = .returned (.bool true) ∧ Below w.heap.size w w' := by
  go_enter Tryz.func68, Tryz.ntmps68
  go_wp2
  go_ret
  exact ⟨rfl, ((Below.refl _ _).alloc (Nat.le_refl _) _).alloc (by simp) _⟩

set_option maxRecDepth 20000 in
set_option maxHeartbeats 800000 in
theorem eqWS_any (A A' : Option Addr) (n c c' : Nat) (cs : List Wr) (w : World) (B B' : Nat) (h : WrsAt w B A n cs) (h' : WrsAt w B' A' n cs) (hB : B ≤ w.heap.size) (hB' : B' ≤ w.heap.size) (hn : n ≤ maxLen) :
    Calls Tryz.prog 31 #[.slice A n c, .slice A' n c'] w fun e w' => e = .returned (.bool true) ∧ Below w.heap.size w w' := by
  unfold maxLen at hn
  go_enter Tryz.func31, Tryz.ntmps31
  go_wp2_with fail
  go_loopw [5] (fun i wr => ∃ k : Nat, k ≤ n ∧ i = .int .i64 k ∧ Below w.heap.size w wr) (fun i _ => n - (intOf i).toNat)
  case atStart => exact ⟨0, Nat.zero_le _, rfl, Below.refl _ _⟩
  case round =>
    obtain ⟨k, hk, rfl, hb⟩ := hrel
    by_cases hlt : k < n
    · obtain ⟨b, off, x, rfl, hbb, hx, c0, c1⟩ := h.get hlt
      obtain ⟨b', off', x', rfl, hbb', hx', c0', c1'⟩ := h'.get hlt
      rw [hx] at hx'
      injection hx' with e
      subst e
      have d0 := (hb.cell (p := ⟨b, off + k * 2, none⟩) (show b < w.heap.size by omega)).trans c0
      have d1 := (hb.cell (p := ⟨b, off + k * 2 + 1, none⟩) (show b < w.heap.size by omega)).trans c1
      have d0' := (hb.cell (p := ⟨b', off' + k * 2, none⟩) (show b' < w.heap.size by omega)).trans c0'
      have d1' := (hb.cell (p := ⟨b', off' + k * 2 + 1, none⟩) (show b' < w.heap.size by omega)).trans c1'
      clear hx c0 c1 c0' c1'
      go_wp2_with fail
      go_still_tail 8, (by kernel_rfl)
      change wpList _ _ _ _ _ wr.drew
      obtain ⟨w2, hw2⟩ : ∃ w2, wr.drew = w2 := ⟨_, rfl⟩
      have hb2 : Below w.heap.size w w2 := hw2 ▸ hb.drew
      rw [hw2]
      clear hw2
      go_wp2_with fail
      refine (eqW_any _ _ _).mono ?_
      rintro e w3 ⟨rfl, hb3⟩
      have hb3' := hb2.trans (hb3.mono hb2.size)
      clear hb3
      go_wp2_with fail
      go_roundw
      case rel => exact ⟨k + 1, by omega, by go_num, hb3'⟩
      case measure => simp [intOf]; omega
    · go_wp2_with fail
      go_ret
      exact ⟨rfl, hb⟩

/-- how much Wires take -/
def wrsWt (cs : List Wr) : Nat := cs.length + sumBy (fun c => c.name.size) cs

set_option maxHeartbeats 800000 in
theorem szWS_any (A : Option Addr) (n c : Nat) (cs : List Wr) (left : Int) (w : World) (B : Nat) (h : WrsAt w B A n cs) (hB : B ≤ w.heap.size) (hl0 : -1 ≤ left) (hl : left ≤ 1048576) (hn : n ≤ maxLen) (hw : ∀ x ∈ cs, WrW x) :
    Calls Tryz.prog 45 #[.slice A n c, .int .i64 left] w (szP (wrsWt cs) left w) := by
  have HL := Lib.hid h.1
  have HW := Lib.hid hw
  clear hw
  unfold maxLen at hn
  by_cases hneg : left - (n : Int) < 0
  · go_enter Tryz.func45, Tryz.ntmps45
    go_wp2_with fail
    go_ret
    exact ⟨-1, rfl, .inl (by omega), by omega, by omega, Below.refl _ _⟩
  · have hneg' : ¬ (left - (n : Int) < 0) := hneg
    go_enter Tryz.func45, Tryz.ntmps45
    go_wp2_with fail
    go_loopw [1, 5] (fun l i wr => ∃ k : Nat, k ≤ n ∧ i = .int .i64 k ∧ l = .int .i64 (left - n - sumBy (fun c : Wr => c.name.size) (cs.take k)) ∧ 0 ≤ left - n - sumBy (fun c : Wr => c.name.size) (cs.take k) ∧ Below w.heap.size w wr) (fun _ i _ => n - (intOf i).toNat)
    case atStart => exact ⟨0, Nat.zero_le _, rfl, by simp [sumBy], by simp [sumBy]; omega, Below.refl _ _⟩
    case round =>
      obtain ⟨k, hk, rfl, rfl, h0, hb⟩ := hrel
      by_cases hlt : k < n
      · obtain ⟨b, off, x, rfl, hbb, hx, c0, c1⟩ := h.get hlt
        have d0 := (hb.cell (p := ⟨b, off + k * 2, none⟩) (show b < w.heap.size by omega)).trans c0
        have d1 := (hb.cell (p := ⟨b, off + k * 2 + 1, none⟩) (show b < w.heap.size by omega)).trans c1
        have hxs : x.name.size ≤ maxLen := (HW.out x (List.mem_of_getElem? hx)).1
        have HT := Lib.hid (sumBy_snoc (fun c : Wr => c.name.size) hx)
        obtain ⟨T, hT⟩ : ∃ T, sumBy (fun c : Wr => c.name.size) (cs.take k) = T := ⟨_, rfl⟩
        have HTe := Lib.hid hT
        rw [hT] at h0 ⊢
        clear hx c0 c1 hT
        by_cases hfit : left - (n : Int) - T - x.name.size < 0
        · have C := szW_any x.name x.link (left - (n : Int) - T) wr (by omega) (by omega) hxs
          rw [if_pos hfit] at C
          go_wp2_with fail
          refine C.mono ?_
          rintro e w1 ⟨rfl, hb1⟩
          have hb2 := hb.trans (hb1.mono hb.size)
          clear hb1 C
          go_wp2_with fail
          go_ret
          exact ⟨-1, rfl, .inl (by omega), by omega, by omega, hb2⟩
        · have hfit' : 0 ≤ left - (n : Int) - T - x.name.size := by omega
          have C := szW_any x.name x.link (left - (n : Int) - T) wr (by omega) (by omega) hxs
          rw [if_neg hfit] at C
          go_wp2_with fail
          refine C.mono ?_
          rintro e w1 ⟨rfl, hb1⟩
          have hb2 := hb.trans (hb1.mono hb.size)
          clear hb1 C
          go_wp2_with fail
          go_roundw
          case rel => exact ⟨k + 1, by omega, by go_num, by rw [HT.out, HTe.out]; go_num, by rw [HT.out, HTe.out]; omega, hb2⟩
          case measure => simp [intOf]; omega
      · go_wp2_with fail
        go_ret
        have hkn : k = n := by omega
        subst hkn
        refine ⟨left - k - sumBy (fun c : Wr => c.name.size) (cs.take k), rfl, .inr ?_, by omega, by omega, hb⟩
        rw [List.take_of_length_le (by rw [HL.out]; omega)]
        unfold wrsWt
        rw [HL.out]
        omega

/-- Wires in memory of the call's own -/
def WrsOwn (w : World) (lo hi : Nat) (A : Option Addr) (n : Nat) (cs : List Wr) : Prop :=
  cs.length = n ∧ ∃ g f, A = some ⟨g, 0, none⟩ ∧ lo ≤ g ∧ g < hi ∧ w.rowIs g 80 (n * 2) f ∧ ∀ (k : Nat) c, cs[k]? = some c → f (k * 2) = .string c.name ∧ f (k * 2 + 1) = .int .i64 c.link
theorem WrsOwn.at {w : World} {lo hi : Nat} {A : Option Addr} {n : Nat} {cs : List Wr} (h : WrsOwn w lo hi A n cs) : WrsAt w hi A n cs := by
  obtain ⟨hl, g, f, rfl, h1, h2, hr, hf⟩ := h
  refine ⟨hl, fun _ => ⟨g, 0, rfl, h2, fun k c hk => ?_⟩⟩
  have hkn : k < n := by have := (List.getElem?_eq_some_iff.1 hk).1; omega
  obtain ⟨e0, e1⟩ := hf k c hk
  rw [Nat.zero_add]
  exact ⟨by rw [hr.cell (show k * 2 < n * 2 by omega), e0], by rw [hr.cell (show k * 2 + 1 < n * 2 by omega), e1]⟩
theorem WrsOwn.below {w w' : World} {lo hi B : Nat} {A : Option Addr} {n : Nat} {cs : List Wr} (h : WrsOwn w lo hi A n cs) (hb : Below B w w') (hB : hi ≤ B) : WrsOwn w' lo hi A n cs := by
  obtain ⟨hl, g, f, rfl, h1, h2, hr, hf⟩ := h
  exact ⟨hl, g, f, rfl, h1, h2, hr.of_block (hb.block g (by omega)), hf⟩
theorem WrsOwn.wide {w : World} {lo hi lo' hi' : Nat} {A : Option Addr} {n : Nat} {cs : List Wr} (h : WrsOwn w lo hi A n cs) (h1 : lo' ≤ lo) (h2 : hi ≤ hi') : WrsOwn w lo' hi' A n cs := by
  obtain ⟨hl, g, f, rfl, a1, a2, hr, hf⟩ := h
  exact ⟨hl, g, f, rfl, by omega, by omega, hr, hf⟩

set_option maxHeartbeats 800000 in
theorem toWS_any (A : Option Addr) (n c : Nat) (cs : List Wr) (w : World) (h : WrsAt w w.heap.size A n cs) (hn : n ≤ 1048576) :
    Calls Tryz.prog 59 #[.slice A n c] w fun e w' => ∃ g, e = .returned (.slice (some ⟨g, 0, none⟩) n n) ∧ WrsOwn w' w.heap.size w'.heap.size (some ⟨g, 0, none⟩) n cs ∧ Below w.heap.size w w' := by
  have HL := Lib.hid h.1
  have hmk : ∀ W : World, (Instr.makeSlice 29 (.int .i64 (n : Int)) (.int .i64 (n : Int))).run Tryz.prog W = .ok (.slice (some ⟨W.heap.size, 0, none⟩) n n) (W.alloc (.cells (madeCells #[.string ⟨#[]⟩, .int .i64 0] (n * 2)) 80)) := by
    intro W
    obtain ⟨i0, hi, hz0, hz1, hz2⟩ := info_parts wire_info
    have hr := run_make (P := Tryz.prog) W 29 80 i0 _ Tryz.underlying29 hi hz0 .i64 .i64 n n (by omega) (Int.le_refl _) (by rw [hz2]; omega) (by omega)
    simp only [Int.toNat_natCast, hz1] at hr
    exact hr
  go_enter Tryz.func59, Tryz.ntmps59
  go_wp2_with fail
  clear hmk
  go_loopw [4] (fun i wr => ∃ k : Nat, k ≤ n ∧ i = .int .i64 k ∧ (∃ f, wr.rowIs w.heap.size 80 (n * 2) f ∧ ∀ (j : Nat) c, j < k → cs[j]? = some c → f (j * 2) = .string c.name ∧ f (j * 2 + 1) = .int .i64 c.link) ∧ Below w.heap.size w wr) (fun i _ => n - (intOf i).toNat)
  case atStart => exact ⟨0, Nat.zero_le _, rfl, ⟨_, row_new w _ _ _ (size_madeCells _ _), fun j c hj => absurd hj (Nat.not_lt_zero j)⟩, (Below.refl _ _).alloc (Nat.le_refl _) _⟩
  case round =>
    obtain ⟨k, hk, rfl, ⟨f, hrow, hf⟩, hbel⟩ := hrel
    have hlt0 := hrow.lt
    by_cases hlt : k < n
    · obtain ⟨b, off, x, rfl, hbb, hx, c0, c1⟩ := h.get hlt
      have d0 := (hbel.cell (p := ⟨b, off + k * 2, none⟩) hbb).trans c0
      have d1 := (hbel.cell (p := ⟨b, off + k * 2 + 1, none⟩) hbb).trans c1
      have HX := Lib.hid hx
      have HF := Lib.hid hf
      clear hx c0 c1 hf
      go_wp2_with fail
      refine (toW_any _ _ _).mono ?_
      rintro e w1 ⟨rfl, hb1⟩
      have hbel1 := hbel.trans (hb1.mono hbel.size)
      have hrow1 := hrow.of_block (hb1.block _ hlt0)
      have z0 := hrow1.cell (show k * 2 < n * 2 by omega)
      have z1 := hrow1.cell (show k * 2 + 1 < n * 2 by omega)
      have f0 := hrow1.frozen (k * 2)
      have f1 := hrow1.frozen (k * 2 + 1)
      have HR := Lib.hid (put2_row hrow1 k (.string x.name) (.int .i64 x.link))
      have HB := Lib.hid (put2_below hbel1 (Nat.le_refl _) k (.string x.name) (.int .i64 x.link))
      clear hb1 hbel1 hrow hrow1 hbel
      go_wp2_with fail
      go_roundw
      case rel =>
        refine ⟨k + 1, by omega, by go_num, ⟨_, HR.out, fun j y hj hy => ?_⟩, HB.out⟩
        by_cases e : j = k
        · subst e
          rw [HX.out] at hy
          injection hy with hy
          subst hy
          exact put2_new
        · obtain ⟨p0, p1⟩ := put2_old (f := f) (k := k) (j := j) (a := .string x.name) (b := .int .i64 x.link) (by omega)
          rw [p0, p1]
          exact HF.out j y (by omega) hy
      case measure => simp [intOf]; omega
    · go_wp2_with fail
      go_ret
      obtain rfl : k = n := by omega
      exact ⟨w.heap.size, rfl, ⟨HL.out, w.heap.size, f, rfl, Nat.le_refl _, hlt0, hrow, fun j c hj => hf j c (by have := (List.getElem?_eq_some_iff.1 hj).1; rw [HL.out] at this; exact this) hj⟩, hbel⟩

set_option maxHeartbeats 1600000 in
theorem markWS_any (g n c : Nat) (f0 : Nat → Value) (k : Int) (w : World) (lo hi : Nat) (hr : w.rowIs g 80 (n * 2) f0) (hlo : lo ≤ g) (hhi : g < hi) (h0 : 0 < k) (h1 : k ≤ 8000000) (hn : n ≤ 1048576) :
    Calls Tryz.prog 37 #[.slice (some ⟨g, 0, none⟩) n c, .int .i64 k] w fun e w' => e = .returned (.int .i64 (k + 2 * n)) ∧ Only lo hi w w' := by
  go_enter Tryz.func37, Tryz.ntmps37
  go_wp2_with fail
  go_loopw [1, 5] (fun q i wr => ∃ j : Nat, j ≤ n ∧ i = .int .i64 j ∧ q = .int .i64 (k + 2 * j) ∧ (∃ f, wr.rowIs g 80 (n * 2) f) ∧ w.grownBy wr (some g)) (fun _ i _ => n - (intOf i).toNat)
  case atStart => exact ⟨0, Nat.zero_le _, rfl, by simp, ⟨f0, hr⟩, World.grownBy.refl w _⟩
  case round =>
    obtain ⟨j, hj, rfl, rfl, ⟨f, hrow⟩, hgr⟩ := hrel
    by_cases hlt : j < n
    · go_wp2_with fail
      refine (mark_any (k + 2 * j) _ (by omega) (by omega)).mono ?_
      rintro e w1 ⟨rfl, hb⟩
      have hrow1 := hrow.of_block (hb.block g hrow.lt)
      have z0 := hrow1.cell (show j * 2 < n * 2 by omega)
      have z1 := hrow1.cell (show j * 2 + 1 < n * 2 by omega)
      have f0 := hrow1.frozen (j * 2)
      have f1 := hrow1.frozen (j * 2 + 1)
      have HRow := Lib.hid (put2_row hrow1 j (.string (mt (k + 2 * j))) (.int .i64 (k + 2 * j + 1)))
      have HG := Lib.hid (only_set (only_set (only_below hgr hb) (j * 2) (.string (mt (k + 2 * j)))) (j * 2 + 1) (.int .i64 (k + 2 * j + 1)))
      clear hrow hrow1 hgr hb
      go_wp2_with fail
      go_roundw
      case rel => exact ⟨j + 1, by omega, by go_num, by go_num, ⟨_, HRow.out⟩, HG.out⟩
      case measure => simp [intOf]; omega
    · obtain rfl : j = n := by omega
      go_wp2_with fail
      go_ret
      exact ⟨rfl, Only.of_grown hgr hr hrow hlo hhi⟩
end Go.Proofs.YtlpgldejmdiceabGreat.hw
end

section
namespace Go.Proofs.YtlpgldejmdiceabGreat.hn
open kit bg opn only marks hc hi
open Go.ChangeShapes Go.WideShapes Go.ChangeAt Go.RowKit
set_option linter.unusedVariables false

set_option maxHeartbeats 400000 in
theorem szN_any (p q : Int) (A : Option Addr) (n c : Nat) (left : Int) (w : World) (hl0 : -1 ≤ left) (hl : left ≤ 1048576) (hn : n ≤ maxLen) :
    Calls Tryz.prog 69 #[.agg #[.int .i64 p, .int .i64 q, .slice A n c], .int .i64 left] w (szP n left w) := by
  go_enter Tryz.func69, Tryz.ntmps69
  go_wp2_with fail
  refine (szI_any A n c left _ hl0 hl hn).mono ?_
  rintro e w1 ⟨r, rfl, hr, hr1, hr2, hb⟩
  have hb2 := ((Below.refl w.heap.size w).alloc (Nat.le_refl _) (.cells #[.int .i64 p, .int .i64 q, .slice A n c] 100)).trans (hb.mono (by simp))
  have HR := Lib.hid hr
  clear hb hr
  by_cases hneg : r < 0
  · go_wp2_with fail
    go_ret
    exact ⟨-1, rfl, .inl (by omega), by omega, by omega, hb2⟩
  · have hneg' : 0 ≤ r := by omega
    go_wp2_with fail
    go_ret
    exact ⟨r, rfl, HR.out, hr1, hr2, hb2⟩

theorem node_info : (Tryz.prog.info? 96).map (fun i => (i.zero, i.size, i.bytes)) = some (some (.agg #[.int .i64 0, .int .i64 0, .slice none 0 0]), 3, 40) := by kernel_rfl

set_option maxHeartbeats 400000 in
theorem toN_any (p q : Int) (A : Option Addr) (n c : Nat) (zs : List Int) (w : World) (h : IntsAt w w.heap.size A n zs) (hn : n ≤ 1048576) :
    Calls Tryz.prog 78 #[.agg #[.int .i64 p, .int .i64 q, .slice A n c]] w fun e w' => ∃ g, e = .returned (.agg #[.int .i64 p, .int .i64 q, .slice (some ⟨g, 0, none⟩) n n]) ∧ w.heap.size ≤ g ∧ w'.rowIs g 3 n (iat zs) ∧ Below w.heap.size w w' := by
  go_enter Tryz.func78, Tryz.ntmps78
  go_wp2_with fail
  refine (toIS_any A n c zs _ ((IntsAt.below h ((((Below.refl _ _).alloc (Nat.le_refl _) _).alloc (by simp) _).alloc (by simp; omega) _)).wide (by simp; omega)) hn).mono ?_
  rintro e w1 ⟨rfl, hrow, hb⟩
  have hb2 := ((((Below.refl w.heap.size w).alloc (Nat.le_refl _) _).alloc (by simp) _).alloc (by simp; omega) _).trans (hb.mono (by simp; omega))
  have r3 := (row_new ((w.alloc (.cells #[.int .i64 p, .int .i64 q, .slice A n c] 100)).alloc (.cells #[.int .i64 0, .int .i64 0, .slice none 0 0] 96)) #[.int .i64 p, .int .i64 q, .slice none 0 0] 96 3 rfl).of_block (hb.block _ (by simp))
  have r2 := ((row_new (w.alloc (.cells #[.int .i64 p, .int .i64 q, .slice A n c] 100)) #[.int .i64 0, .int .i64 0, .slice none 0 0] 96 3 rfl).alloc (.cells #[.int .i64 p, .int .i64 q, .slice none 0 0] 96)).of_block (hb.block _ (by simp))
  simp only [World.size_alloc] at r3 r2 hrow
  have x30 : w1.cell? ⟨w.heap.size + 1 + 1, 0, none⟩ = some (.int .i64 p) := r3.cell (by omega)
  have x31 : w1.cell? ⟨w.heap.size + 1 + 1, 1, none⟩ = some (.int .i64 q) := r3.cell (by omega)
  have x32 : w1.cell? ⟨w.heap.size + 1 + 1, 2, none⟩ = some (.slice none 0 0) := r3.cell (by omega)
  have y30 := r3.frozen 0
  have y31 := r3.frozen 1
  have y32 := r3.frozen 2
  have x20 : w1.cell? ⟨w.heap.size + 1, 0, none⟩ = some (.int .i64 0) := r2.cell (by omega)
  have x21 : w1.cell? ⟨w.heap.size + 1, 1, none⟩ = some (.int .i64 0) := r2.cell (by omega)
  have x22 : w1.cell? ⟨w.heap.size + 1, 2, none⟩ = some (.slice none 0 0) := r2.cell (by omega)
  have y20 := r2.frozen 0
  have y21 := r2.frozen 1
  have y22 := r2.frozen 2
  have HR := Lib.hid hrow
  have HB := Lib.hid hb2
  clear hrow hb2 hb r3 r2
  go_wp2_with fail
  refine bodyPost_ret (v := .agg #[.int .i64 p, .int .i64 q, .slice (some ⟨w.heap.size + 1 + 1 + 1, 0, none⟩) n n]) (by simp [results, Tryz.results78, go_sem, x20, x21, x22]) rfl ⟨_, rfl, by omega, ?_, ?_⟩
  · refine World.rowIs.setOther (World.rowIs.setOther (World.rowIs.setOther (World.rowIs.setOther HR.out (a := ⟨w.heap.size + 1 + 1, 2, none⟩) ?_ _) (a := ⟨w.heap.size + 1, 0, none⟩) ?_ _) (a := ⟨w.heap.size + 1, 1, none⟩) ?_ _) (a := ⟨w.heap.size + 1, 2, none⟩) ?_ _ <;> (dsimp only; omega)
  · exact (((HB.out.setCell (p := ⟨w.heap.size + 1 + 1, 2, none⟩) (by dsimp only; omega) _).setCell (p := ⟨w.heap.size + 1, 0, none⟩) (by dsimp only; omega) _).setCell (p := ⟨w.heap.size + 1, 1, none⟩) (by dsimp only; omega) _).setCell (p := ⟨w.heap.size + 1, 2, none⟩) (by dsimp only; omega) _

set_option maxHeartbeats 400000 in
theorem eqN_any (p q : Int) (A A' : Option Addr) (n c c' : Nat) (zs : List Int) (w : World) (B B' : Nat) (h : IntsAt w B A n zs) (h' : IntsAt w B' A' n zs) (hB : B ≤ w.heap.size) (hB' : B' ≤ w.heap.size) (hn : n ≤ maxLen) :
    Calls Tryz.prog 67 #[.agg #[.int .i64 p, .int .i64 q, .slice A n c], .agg #[.int .i64 p, .int .i64 q, .slice A' n c']] w fun e w' => e = .returned (.bool true) ∧ Below w.heap.size w w' := by
  have hb0 : Below w.heap.size w ((w.alloc (.cells #[.int .i64 p, .int .i64 q, .slice A n c] 96)).alloc (.cells #[.int .i64 p, .int .i64 q, .slice A' n c'] 96)) := ((Below.refl w.heap.size w).alloc (Nat.le_refl _) _).alloc (by simp) _
  have HB := Lib.hid hb0
  clear hb0
  go_enter Tryz.func67, Tryz.ntmps67
  go_wp2_with fail
  refine (eqIS_any A A' n c c' zs _ w.heap.size w.heap.size ((h.wide hB).below HB.out) ((h'.wide hB').below HB.out) hn).mono ?_
  rintro e w1 ⟨rfl, hd⟩
  have hb2 := HB.out.trans (hd.below _)
  clear hd
  go_wp2_with fail
  go_ret
  exact ⟨rfl, hb2⟩

set_option maxRecDepth 20000 in
set_option maxHeartbeats 800000 in
theorem eqNS_any (A A' : Option Addr) (n c c' : Nat) (cs : List Nd) (w : World) (B B' : Nat) (h : NdsAt w B A n cs) (h' : NdsAt w B' A' n cs) (hB : B ≤ w.heap.size) (hB' : B' ≤ w.heap.size) (hn : n ≤ maxLen) (hw : ∀ x ∈ cs, x.links.length ≤ maxLen) :
    Calls Tryz.prog 28 #[.slice A n c, .slice A' n c'] w fun e w' => e = .returned (.bool true) ∧ Below w.heap.size w w' := by
  have HW := Lib.hid hw
  clear hw
  unfold maxLen at hn
  go_enter Tryz.func28, Tryz.ntmps28
  go_wp2_with fail
  go_loopw [5] (fun i wr => ∃ k : Nat, k ≤ n ∧ i = .int .i64 k ∧ Below w.heap.size w wr) (fun i _ => n - (intOf i).toNat)
  case atStart => exact ⟨0, Nat.zero_le _, rfl, Below.refl _ _⟩
  case round =>
    obtain ⟨k, hk, rfl, hb⟩ := hrel
    by_cases hlt : k < n
    · obtain ⟨b, off, x, rfl, hbb, hx, c0, c1, L, m, cap, c2, hi⟩ := h.get hlt
      obtain ⟨b', off', x', rfl, hbb', hx', c0', c1', L', m', cap', c2', hi'⟩ := h'.get hlt
      rw [hx] at hx'
      injection hx' with e
      subst e
      obtain rfl : m = m' := hi.len.symm.trans hi'.len
      have hml : m ≤ maxLen := by have := HW.out x (List.mem_of_getElem? hx); have := hi.len; omega
      have d0 := (hb.cell (p := ⟨b, off + k * 3, none⟩) (show b < w.heap.size by omega)).trans c0
      have d1 := (hb.cell (p := ⟨b, off + k * 3 + 1, none⟩) (show b < w.heap.size by omega)).trans c1
      have d2 := (hb.cell (p := ⟨b, off + k * 3 + 2, none⟩) (show b < w.heap.size by omega)).trans c2
      have d0' := (hb.cell (p := ⟨b', off' + k * 3, none⟩) (show b' < w.heap.size by omega)).trans c0'
      have d1' := (hb.cell (p := ⟨b', off' + k * 3 + 1, none⟩) (show b' < w.heap.size by omega)).trans c1'
      have d2' := (hb.cell (p := ⟨b', off' + k * 3 + 2, none⟩) (show b' < w.heap.size by omega)).trans c2'
      clear hx c0 c1 c2 c0' c1' c2'
      go_wp2_with fail
      go_still_tail 8, (by kernel_rfl)
      change wpList _ _ _ _ _ wr.drew
      obtain ⟨w2, hw2⟩ : ∃ w2, wr.drew = w2 := ⟨_, rfl⟩
      have hb2 : Below w.heap.size w w2 := hw2 ▸ hb.drew
      rw [hw2]
      clear hw2
      go_wp2_with fail
      refine (eqN_any _ _ _ _ _ _ _ x.links _ w.heap.size w.heap.size ((hi.wide hB).below hb2) ((hi'.wide hB').below hb2) hb2.size hb2.size hml).mono ?_
      rintro e w3 ⟨rfl, hb3⟩
      have hb3' := hb2.trans (hb3.mono hb2.size)
      clear hb3
      go_wp2_with fail
      go_roundw
      case rel => exact ⟨k + 1, by omega, by go_num, hb3'⟩
      case measure => simp [intOf]; omega
    · go_wp2_with fail
      go_ret
      exact ⟨rfl, hb⟩

/-- how much nodes take -/
def ndsWt (cs : List Nd) : Nat := cs.length + sumBy (fun c => c.links.length) cs

set_option maxHeartbeats 800000 in
theorem szNS_any (A : Option Addr) (n c : Nat) (cs : List Nd) (left : Int) (w : World) (B : Nat) (h : NdsAt w B A n cs) (hB : B ≤ w.heap.size) (hl0 : -1 ≤ left) (hl : left ≤ 1048576) (hn : n ≤ maxLen) (hw : ∀ x ∈ cs, NdW x) :
    Calls Tryz.prog 42 #[.slice A n c, .int .i64 left] w (szP (ndsWt cs) left w) := by
  have HL := Lib.hid h.1
  have HW := Lib.hid hw
  clear hw
  unfold maxLen at hn
  by_cases hneg : left - (n : Int) < 0
  · go_enter Tryz.func42, Tryz.ntmps42
    go_wp2_with fail
    go_ret
    exact ⟨-1, rfl, .inl (by omega), by omega, by omega, Below.refl _ _⟩
  · have hneg' : ¬ (left - (n : Int) < 0) := hneg
    go_enter Tryz.func42, Tryz.ntmps42
    go_wp2_with fail
    go_loopw [1, 5] (fun l i wr => ∃ k : Nat, k ≤ n ∧ i = .int .i64 k ∧ l = .int .i64 (left - n - sumBy (fun c : Nd => c.links.length) (cs.take k)) ∧ 0 ≤ left - n - sumBy (fun c : Nd => c.links.length) (cs.take k) ∧ Below w.heap.size w wr) (fun _ i _ => n - (intOf i).toNat)
    case atStart => exact ⟨0, Nat.zero_le _, rfl, by simp [sumBy], by simp [sumBy]; omega, Below.refl _ _⟩
    case round =>
      obtain ⟨k, hk, rfl, rfl, h0, hb⟩ := hrel
      by_cases hlt : k < n
      · obtain ⟨b, off, x, rfl, hbb, hx, c0, c1, L, m, cap, c2, hi⟩ := h.get hlt
        have d0 := (hb.cell (p := ⟨b, off + k * 3, none⟩) (show b < w.heap.size by omega)).trans c0
        have d1 := (hb.cell (p := ⟨b, off + k * 3 + 1, none⟩) (show b < w.heap.size by omega)).trans c1
        have d2 := (hb.cell (p := ⟨b, off + k * 3 + 2, none⟩) (show b < w.heap.size by omega)).trans c2
        have hlen := hi.len
        have hxs : m ≤ maxLen := by have := (HW.out x (List.mem_of_getElem? hx)).2.2.1; omega
        have HT := Lib.hid (sumBy_snoc (fun c : Nd => c.links.length) hx)
        have HLn := Lib.hid hlen
        obtain ⟨T, hT⟩ : ∃ T, sumBy (fun c : Nd => c.links.length) (cs.take k) = T := ⟨_, rfl⟩
        have HTe := Lib.hid hT
        rw [hT] at h0 ⊢
        clear hx c0 c1 c2 hT hlen
        go_wp2_with fail
        refine (szN_any _ _ _ _ _ (left - (n : Int) - T) wr (by omega) (by omega) hxs).mono ?_
        rintro e w1 ⟨r, rfl, hr, hr1, hr2, hb1⟩
        have hb2 := hb.trans (hb1.mono hb.size)
        have HR := Lib.hid hr
        clear hb1 hr
        by_cases hneg2 : r < 0
        · go_wp2_with fail
          go_ret
          exact ⟨-1, rfl, .inl (by omega), by omega, by omega, hb2⟩
        · have hneg2' : 0 ≤ r := by omega
          have hre : r = left - (n : Int) - T - m := by have := HR.out; omega
          have HRe := Lib.hid hre
          clear hre
          go_wp2_with fail
          go_roundw
          case rel => exact ⟨k + 1, by omega, by go_num, by rw [HT.out, HTe.out, HRe.out, HLn.out]; go_num, by rw [HT.out, HTe.out, HLn.out]; have := HRe.out; omega, hb2⟩
          case measure => simp [intOf]; omega
      · go_wp2_with fail
        go_ret
        have hkn : k = n := by omega
        subst hkn
        refine ⟨left - k - sumBy (fun c : Nd => c.links.length) (cs.take k), rfl, .inr ?_, by omega, by omega, hb⟩
        rw [List.take_of_length_le (by rw [HL.out]; omega)]
        unfold ndsWt
        rw [HL.out]
        omega

/-- nodes in memory of the call's own -/
def NdsOwn (w : World) (lo hi : Nat) (A : Option Addr) (n : Nat) (ns : List Nd) : Prop :=
  ns.length = n ∧ ∃ g f, A = some ⟨g, 0, none⟩ ∧ lo ≤ g ∧ g < hi ∧ w.rowIs g 96 (n * 3) f ∧ ∀ (k : Nat) x, ns[k]? = some x → f (k * 3) = .int .i64 x.control ∧ f (k * 3 + 1) = .int .i64 x.parent ∧
    ∃ b, f (k * 3 + 2) = .slice (some ⟨b, 0, none⟩) x.links.length x.links.length ∧ g < b ∧ b < hi ∧ w.rowIs b 3 x.links.length (iat x.links)
theorem NdsOwn.at {w : World} {lo hi : Nat} {A : Option Addr} {n : Nat} {cs : List Nd} (h : NdsOwn w lo hi A n cs) : NdsAt w hi A n cs := by
  obtain ⟨hl, g, f, rfl, h1, h2, hr, hf⟩ := h
  refine ⟨hl, fun _ => ⟨g, 0, rfl, h2, fun k c hk => ?_⟩⟩
  have hkn : k < n := by have := (List.getElem?_eq_some_iff.1 hk).1; omega
  obtain ⟨e0, e1, b, e2, hb1, hb2, hbr⟩ := hf k c hk
  rw [Nat.zero_add]
  exact ⟨by rw [hr.cell (show k * 3 < n * 3 by omega), e0], by rw [hr.cell (show k * 3 + 1 < n * 3 by omega), e1], _, _, _, by rw [hr.cell (show k * 3 + 2 < n * 3 by omega), e2], ints_row hbr (Nat.le_refl _) hb2 rfl (fun _ _ => rfl)⟩
theorem NdsOwn.below {w w' : World} {lo hi B : Nat} {A : Option Addr} {n : Nat} {cs : List Nd} (h : NdsOwn w lo hi A n cs) (hb : Below B w w') (hB : hi ≤ B) : NdsOwn w' lo hi A n cs := by
  obtain ⟨hl, g, f, rfl, h1, h2, hr, hf⟩ := h
  refine ⟨hl, g, f, rfl, h1, h2, hr.of_block (hb.block g (by omega)), fun k x hk => ?_⟩
  obtain ⟨e0, e1, b, e2, hb1, hb2, hbr⟩ := hf k x hk
  exact ⟨e0, e1, b, e2, hb1, hb2, hbr.of_block (hb.block b (by omega))⟩
theorem NdsOwn.wide {w : World} {lo hi lo' hi' : Nat} {A : Option Addr} {n : Nat} {cs : List Nd} (h : NdsOwn w lo hi A n cs) (h1 : lo' ≤ lo) (h2 : hi ≤ hi') : NdsOwn w lo' hi' A n cs := by
  obtain ⟨hl, g, f, rfl, a1, a2, hr, hf⟩ := h
  refine ⟨hl, g, f, rfl, by omega, by omega, hr, fun k x hk => ?_⟩
  obtain ⟨e0, e1, b, e2, hb1, hb2, hbr⟩ := hf k x hk
  exact ⟨e0, e1, b, e2, hb1, by omega, hbr⟩

/-- the first k nodes stand in row g -/
def NdsK (wr : World) (g : Nat) (n k : Nat) (cs : List Nd) : Prop := ∃ f, wr.rowIs g 96 (n * 3) f ∧ ∀ (j : Nat) x, j < k → cs[j]? = some x → f (j * 3) = .int .i64 x.control ∧ f (j * 3 + 1) = .int .i64 x.parent ∧
    ∃ b, f (j * 3 + 2) = .slice (some ⟨b, 0, none⟩) x.links.length x.links.length ∧ g < b ∧ b < wr.heap.size ∧ wr.rowIs b 3 x.links.length (iat x.links)
theorem ndsK_next {wr w1 : World} {g n k : Nat} {cs : List Nd} {x : Nd} {b : Nat} (h : NdsK wr g n k cs) (hx : cs[k]? = some x) (hb : Below wr.heap.size wr w1) (hg : g < wr.heap.size) (hbb : wr.heap.size ≤ b) (hr : w1.rowIs b 3 x.links.length (iat x.links)) :
    NdsK (((w1.setCell ⟨g, k * 3, none⟩ (.int .i64 x.control)).setCell ⟨g, k * 3 + 1, none⟩ (.int .i64 x.parent)).setCell ⟨g, k * 3 + 2, none⟩ (.slice (some ⟨b, 0, none⟩) x.links.length x.links.length)) g n (k + 1) cs := by
  obtain ⟨f, hrow, hf⟩ := h
  have hsz : (((w1.setCell ⟨g, k * 3, none⟩ (.int .i64 x.control)).setCell ⟨g, k * 3 + 1, none⟩ (.int .i64 x.parent)).setCell ⟨g, k * 3 + 2, none⟩ (.slice (some ⟨b, 0, none⟩) x.links.length x.links.length)).heap.size = w1.heap.size := by simp [World.setCell]
  have hkeep : ∀ {b' m : Nat} {f' : Nat → Value}, b' ≠ g → w1.rowIs b' 3 m f' → (((w1.setCell ⟨g, k * 3, none⟩ (.int .i64 x.control)).setCell ⟨g, k * 3 + 1, none⟩ (.int .i64 x.parent)).setCell ⟨g, k * 3 + 2, none⟩ (.slice (some ⟨b, 0, none⟩) x.links.length x.links.length)).rowIs b' 3 m f' := fun hne hr' =>
    ((hr'.setOther (a := ⟨g, k * 3, none⟩) hne _).setOther (a := ⟨g, k * 3 + 1, none⟩) hne _).setOther (a := ⟨g, k * 3 + 2, none⟩) hne _
  have hlt := hr.lt
  refine ⟨_, put3_row (hrow.of_block (hb.block g hg)) k _ _ _, fun j y hj hy => ?_⟩
  by_cases e : j = k
  · subst e
    rw [hx] at hy
    injection hy with hy
    subst hy
    obtain ⟨e0, e1, e2⟩ := put3_new (f := f) (k := j) (a := .int .i64 x.control) (b := .int .i64 x.parent) (c := .slice (some ⟨b, 0, none⟩) x.links.length x.links.length)
    exact ⟨e0, e1, b, e2, by omega, by omega, hkeep (by omega) hr⟩
  · obtain ⟨p0, p1, p2⟩ := put3_old (f := f) (k := k) (j := j) (a := .int .i64 x.control) (b := .int .i64 x.parent) (c := .slice (some ⟨b, 0, none⟩) x.links.length x.links.length) (by omega)
    obtain ⟨e0, e1, b', e2, h1, h2, h3⟩ := hf j y (by omega) hy
    rw [p0, p1, p2]
    have := hb.size
    exact ⟨e0, e1, b', e2, h1, by omega, hkeep (by omega) (h3.of_block (hb.block b' h2))⟩

set_option maxHeartbeats 800000 in
theorem toNS_any (A : Option Addr) (n c : Nat) (cs : List Nd) (w : World) (h : NdsAt w w.heap.size A n cs) (hn : n ≤ 1048576) (hw : ∀ x ∈ cs, x.links.length ≤ 1048576) :
    Calls Tryz.prog 56 #[.slice A n c] w fun e w' => ∃ g, e = .returned (.slice (some ⟨g, 0, none⟩) n n) ∧ NdsOwn w' w.heap.size w'.heap.size (some ⟨g, 0, none⟩) n cs ∧ Below w.heap.size w w' := by
  have HL := Lib.hid h.1
  have HW := Lib.hid hw
  clear hw
  have hmk : ∀ W : World, (Instr.makeSlice 26 (.int .i64 (n : Int)) (.int .i64 (n : Int))).run Tryz.prog W = .ok (.slice (some ⟨W.heap.size, 0, none⟩) n n) (W.alloc (.cells (madeCells #[.int .i64 0, .int .i64 0, .slice none 0 0] (n * 3)) 96)) := by
    intro W
    obtain ⟨i0, hi, hz0, hz1, hz2⟩ := info_parts node_info
    have hr := run_make (P := Tryz.prog) W 26 96 i0 _ Tryz.underlying26 hi hz0 .i64 .i64 n n (by omega) (Int.le_refl _) (by rw [hz2]; omega) (by omega)
    simp only [Int.toNat_natCast, hz1] at hr
    exact hr
  go_enter Tryz.func56, Tryz.ntmps56
  go_wp2_with fail
  clear hmk
  go_loopw [4] (fun i wr => ∃ k : Nat, k ≤ n ∧ i = .int .i64 k ∧ NdsK wr w.heap.size n k cs ∧ Below w.heap.size w wr ∧ w.heap.size < wr.heap.size) (fun i _ => n - (intOf i).toNat)
  case atStart => exact ⟨0, Nat.zero_le _, rfl, ⟨_, row_new w _ _ _ (size_madeCells _ _), fun j c hj => absurd hj (Nat.not_lt_zero j)⟩, (Below.refl _ _).alloc (Nat.le_refl _) _, by simp⟩
  case round =>
    obtain ⟨k, hk, rfl, hkk, hbel, hlt0⟩ := hrel
    by_cases hlt : k < n
    · obtain ⟨b, off, x, rfl, hbb, hx, c0, c1, L, m, cap, c2, hi⟩ := h.get hlt
      have d0 := (hbel.cell (p := ⟨b, off + k * 3, none⟩) hbb).trans c0
      have d1 := (hbel.cell (p := ⟨b, off + k * 3 + 1, none⟩) hbb).trans c1
      have d2 := (hbel.cell (p := ⟨b, off + k * 3 + 2, none⟩) hbb).trans c2
      have hlen := hi.len
      have hml : m ≤ 1048576 := by have := HW.out x (List.mem_of_getElem? hx); omega
      subst hlen
      have HX := Lib.hid hx
      have HK := Lib.hid hkk
      obtain ⟨f, hrow, -⟩ := hkk
      clear hx c0 c1 c2
      go_wp2_with fail
      refine (toN_any _ _ _ _ _ x.links _ ((hi.below hbel).wide hbel.size) hml).mono ?_
      rintro e w1 ⟨g1, rfl, hg1, hr1, hb1⟩
      have hbel1 := hbel.trans (hb1.mono hbel.size)
      have hrow1 := hrow.of_block (hb1.block _ hlt0)
      have z0 := hrow1.cell (show k * 3 < n * 3 by omega)
      have z1 := hrow1.cell (show k * 3 + 1 < n * 3 by omega)
      have z2 := hrow1.cell (show k * 3 + 2 < n * 3 by omega)
      have f0 := hrow1.frozen (k * 3)
      have f1 := hrow1.frozen (k * 3 + 1)
      have f2 := hrow1.frozen (k * 3 + 2)
      have hs1 := hb1.size
      have HN := Lib.hid (ndsK_next HK.out HX.out hb1 hlt0 hg1 hr1)
      have HB := Lib.hid (put3_below hbel1 (Nat.le_refl _) k (.int .i64 x.control) (.int .i64 x.parent) (.slice (some ⟨g1, 0, none⟩) x.links.length x.links.length))
      clear hb1 hbel1 hrow hrow1 hbel hr1
      go_wp2_with fail
      go_roundw
      case rel => exact ⟨k + 1, by omega, by go_num, HN.out, HB.out, by simp [World.setCell]; omega⟩
      case measure => simp [intOf]; omega
    · go_wp2_with fail
      go_ret
      obtain rfl : k = n := by omega
      obtain ⟨f, hrow, hf⟩ := hkk
      exact ⟨w.heap.size, rfl, ⟨HL.out, w.heap.size, f, rfl, Nat.le_refl _, hlt0, hrow, fun j x hj => hf j x (by have := (List.getElem?_eq_some_iff.1 hj).1; rw [HL.out] at this; exact this) hj⟩, hbel⟩

set_option maxHeartbeats 1600000 in
theorem markNS_any (A : Option Addr) (n c : Nat) (cs : List Nd) (k : Int) (w : World) (lo hi : Nat) (h : NdsOwn w lo hi A n cs) (hhi : hi ≤ w.heap.size) (h0 : 0 < k) (h1 : k ≤ 3200000) (hwt : ndsWt cs ≤ 1048576) :
    Calls Tryz.prog 34 #[.slice A n c, .int .i64 k] w fun e w' => ∃ r : Int, e = .returned (.int .i64 r) ∧ r = k + 2 * n + sumBy (fun c : Nd => c.links.length) cs ∧ Only lo hi w w' := by
  obtain ⟨hl, g, f, rfl, hg1, hg2, hrow, hf⟩ := h
  have HL := Lib.hid hl
  have HF := Lib.hid hf
  have hn : n ≤ 1048576 := by unfold ndsWt at hwt; omega
  have hwt2 : sumBy (fun c : Nd => c.links.length) cs ≤ 1048576 := by unfold ndsWt at hwt; omega
  have HWt := Lib.hid hwt2
  clear hl hf hwt hwt2
  go_enter Tryz.func34, Tryz.ntmps34
  go_wp2_with fail
  go_loopw [1, 5] (fun q i wr => ∃ j : Nat, j ≤ n ∧ i = .int .i64 j ∧ q = .int .i64 (k + 2 * j + sumBy (fun c : Nd => c.links.length) (cs.take j)) ∧ Only lo hi w wr ∧ (∃ f', wr.rowIs g 96 (n * 3) f' ∧ ∀ j', j' < n → f' (j' * 3 + 2) = f (j' * 3 + 2))) (fun _ i _ => n - (intOf i).toNat)
  case atStart => exact ⟨0, Nat.zero_le _, rfl, by simp [sumBy], Only.refl _ _ _, f, hrow, fun _ _ => rfl⟩
  case round =>
    obtain ⟨j, hj, rfl, rfl, hon, f', hrow', hhd⟩ := hrel
    by_cases hlt : j < n
    · have hx : cs[j]? = some (cs[j]'(by rw [HL.out]; exact hlt)) := List.getElem?_eq_getElem _
      obtain ⟨x, hxe⟩ : ∃ x, cs[j]'(by rw [HL.out]; exact hlt) = x := ⟨_, rfl⟩
      rw [hxe] at hx
      obtain ⟨e0, e1, b, e2, hb1, hb2, hbr⟩ := HF.out j x hx
      have HS := Lib.hid (sumBy_snoc (fun c : Nd => c.links.length) hx)
      have hT1 := sumBy_take (fun c : Nd => c.links.length) cs j
      have hT2 := sumBy_take (fun c : Nd => c.links.length) cs (j + 1)
      have hlx : x.links.length ≤ 1048576 := by have := sumBy_mem (fun c : Nd => c.links.length) (List.mem_of_getElem? hx); have := HWt.out; omega
      obtain ⟨T, hT⟩ : ∃ T, sumBy (fun c : Nd => c.links.length) (cs.take j) = T := ⟨_, rfl⟩
      have HTe := Lib.hid hT
      have hTb : T ≤ 1048576 := by have := HWt.out; omega
      rw [hT]
      have z0 := hrow'.cell (show j * 3 < n * 3 by omega)
      have z1 := hrow'.cell (show j * 3 + 1 < n * 3 by omega)
      have z2 : wr.cell? ⟨g, j * 3 + 2, none⟩ = some (.slice (some ⟨b, 0, none⟩) x.links.length x.links.length) := (hrow'.cell (show j * 3 + 2 < n * 3 by omega)).trans (by rw [hhd j hlt, e2])
      have f0 := hrow'.frozen (j * 3)
      have f1 := hrow'.frozen (j * 3 + 1)
      have HHd := Lib.hid hhd
      have hrow2 : ((wr.setCell ⟨g, j * 3, none⟩ (.int .i64 (k + 2 * j + T))).setCell ⟨g, j * 3 + 1, none⟩ (.int .i64 (k + 2 * j + T + 1))).rowIs g 96 (n * 3) (fun i => if i = j * 3 + 1 then .int .i64 (k + 2 * j + T + 1) else if i = j * 3 then .int .i64 (k + 2 * j + T) else f' i) := (hrow'.set (j * 3) _).set (j * 3 + 1) _
      have hon2 : Only lo hi w ((wr.setCell ⟨g, j * 3, none⟩ (.int .i64 (k + 2 * j + T))).setCell ⟨g, j * 3 + 1, none⟩ (.int .i64 (k + 2 * j + T + 1))) := (hon.trans (Only.set wr hg1 hg2 (j * 3) _)).trans (Only.set _ hg1 hg2 (j * 3 + 1) _)
      obtain ⟨fb, hbr2⟩ := hon2.rows b _ _ ⟨_, hbr⟩
      have HR2 := Lib.hid hrow2
      have HO2 := Lib.hid hon2
      have HBR2 := Lib.hid hbr2
      clear hx hxe e0 e1 e2 hbr hrow2 hon2 hbr2 hT hT1 hT2 hhd hon hrow'
      go_wp2_with fail
      refine (markI_any b x.links.length x.links.length fb (k + 2 * j + T + 1 + 1) _ HBR2.out (Nat.le_refl _) (by omega) (by omega) (by omega)).mono ?_
      rintro e w2 ⟨rfl, hrm, hgm⟩
      have HO3 := Lib.hid (HO2.out.trans (Only.of_grown hgm HBR2.out hrm (by omega) hb2))
      have HR3 := Lib.hid (HR2.out.of_block (hgm.block g HR2.out.lt (fun e => by injection e with e; omega)))
      clear hrm hgm
      go_wp2_with fail
      go_roundw
      case rel =>
        refine ⟨j + 1, by omega, by go_num, by rw [HS.out, HTe.out]; go_num, HO3.out, _, HR3.out, fun j' hj' => ?_⟩
        show (if _ then _ else if _ then _ else _) = _
        rw [if_neg (by omega), if_neg (by omega)]
        exact HHd.out j' hj'
      case measure => simp [intOf]; omega
    · obtain rfl : j = n := by omega
      have hfull : cs.take j = cs := List.take_of_length_le (by rw [HL.out]; omega)
      have HFl := Lib.hid hfull
      clear hfull
      go_wp2_with fail
      go_ret
      exact ⟨_, rfl, by rw [HFl.out], hon⟩
end Go.Proofs.YtlpgldejmdiceabGreat.hn
end

section
namespace Go.Proofs.YtlpgldejmdiceabGreat.hb
open kit bg opn only marks strs eqs hc hi hw hn
open Go.ChangeShapes Go.WideShapes Go.ChangeAt Go.RowKit
set_option linter.unusedVariables false

/-! ### boxes of six cells -/
theorem row6 {w : World} {β : Nat} {t : TypeId} {f : Nat → Value} (h : w.rowIs β t 6 f) : w.cell? ⟨β, 0, none⟩ = some (f 0) ∧ w.cell? ⟨β, 1, none⟩ = some (f 1) ∧ w.cell? ⟨β, 2, none⟩ = some (f 2) ∧ w.cell? ⟨β, 3, none⟩ = some (f 3) ∧ w.cell? ⟨β, 4, none⟩ = some (f 4) ∧ w.cell? ⟨β, 5, none⟩ = some (f 5) :=
  ⟨h.cell (by omega), h.cell (by omega), h.cell (by omega), h.cell (by omega), h.cell (by omega), h.cell (by omega)⟩
/-- the content of six cells -/
def six (a b c d e f : Value) (i : Nat) : Value := if i = 0 then a else if i = 1 then b else if i = 2 then c else if i = 3 then d else if i = 4 then e else f
theorem six_new (w : World) (a b c d e f : Value) (t : TypeId) : (w.alloc (.cells #[a, b, c, d, e, f] t)).rowIs w.heap.size t 6 (six a b c d e f) :=
  (row_new w #[a, b, c, d, e, f] t 6 rfl).congr (fun i hi => by
    match i, hi with
    | 0, _ => rfl
    | 1, _ => rfl
    | 2, _ => rfl
    | 3, _ => rfl
    | 4, _ => rfl
    | 5, _ => rfl)

/-- how much a Bigraph takes -/
def bigWt (b : Big) : Nat := ndsWt b.nodes + b.sites.length + (b.outer.length + tot b.outer) + wrsWt b.inner

theorem below_box {w w1 : World} {o : Obj} (hb : Below (w.alloc o).heap.size (w.alloc o) w1) : Below w.heap.size w w1 := ((Below.refl w.heap.size w).alloc (Nat.le_refl _) o).trans (hb.mono (by simp))

set_option maxHeartbeats 1600000 in
theorem szB_any (v : Value) (b : Big) (left : Int) (w : World) (B : Nat) (h : BigAt w B v b) (hB : B ≤ w.heap.size) (hl0 : -1 ≤ left) (hl : left ≤ 1048576) (hw : BigW b) :
    Calls Tryz.prog 18 #[v, .int .i64 left] w (szP (bigWt b) left w) := by
  obtain ⟨A1, n1, c1, A2, n2, c2, A4, n4, c4, A5, n5, c5, rfl, h1, h2, h4, h5⟩ := h
  obtain ⟨-, -, w1, wn, w2, -, w4, ws, w5, wi⟩ := hw
  have l1 := h1.1
  have l2 := h2.len
  have l4 := h4.strlen
  have l5 := h5.1
  have HL := Lib.hid (And.intro l1 (And.intro l2 (And.intro l4 l5)))
  rw [l1] at w1
  rw [l2] at w2
  rw [l4] at w4
  rw [l5] at w5
  have HWn := Lib.hid wn
  have HWs := Lib.hid ws
  have HWi := Lib.hid wi
  have HBox := Lib.hid (six_new w (.int .i64 b.roots) (.slice A1 n1 c1) (.slice A2 n2 c2) (.int .i64 b.edges) (.slice A4 n4 c4) (.slice A5 n5 c5) 52)
  clear l1 l2 l4 l5 wn ws wi
  go_enter Tryz.func18, Tryz.ntmps18
  go_wp2_with fail
  refine (szNS_any A1 n1 c1 b.nodes left _ w.heap.size ((h1.wide hB).below ((Below.refl _ w).alloc (Nat.le_refl _) _)) (by simp) hl0 hl w1 HWn.out).mono ?_
  rintro e w6 ⟨r, rfl, hr, hr1, hr2, hb⟩
  have hb6 := below_box hb
  have hrow := HBox.out.of_block (hb.block w.heap.size (by simp))
  clear hb
  by_cases hneg : r < 0
  · go_wp2_with fail
    go_ret
    exact ⟨-1, rfl, .inl (by omega), by omega, by omega, hb6⟩
  · have hneg' : 0 ≤ r := by omega
    have hr' : r = left - (ndsWt b.nodes : Int) := by omega
    have HR := Lib.hid hr'
    obtain ⟨x0, x1, x2, x3, x4, x5⟩ := row6 hrow
    simp only [six] at x0 x1 x2 x3 x4 x5
    simp at x0 x1 x2 x3 x4 x5
    clear hr hr'
    go_wp2_with fail
    refine (szI_any A2 n2 c2 r _ hr1 (by omega) w2).mono ?_
    rintro e w7 ⟨r2, rfl, hr, hr3, hr4, hb⟩
    have hb7 := hb6.trans (hb.mono hb6.size)
    have hrow7 := hrow.of_block (hb.block w.heap.size hrow.lt)
    clear hb hrow x0 x1 x2 x3 x4 x5
    by_cases hneg : r2 < 0
    · go_wp2_with fail
      go_ret
      exact ⟨-1, rfl, .inl (by omega), by omega, by omega, hb7⟩
    · have hneg2 : 0 ≤ r2 := by omega
      have hr' : r2 = r - (n2 : Int) := by omega
      have HR2 := Lib.hid hr'
      obtain ⟨x0, x1, x2, x3, x4, x5⟩ := row6 hrow7
      simp only [six] at x0 x1 x2 x3 x4 x5
      simp at x0 x1 x2 x3 x4 x5
      clear hr hr'
      go_wp2_with fail
      refine (sz_any A4 n4 c4 b.outer r2 _ w.heap.size ((h4.wide hB).below hb7) hr3 (by omega) w4 HWs.out).mono ?_
      rintro e w8 ⟨r3, rfl, hr, hr5, rfl⟩
      by_cases hneg : r3 < 0
      · go_wp2_with fail
        go_ret
        exact ⟨-1, rfl, .inl (by omega), by omega, by omega, hb7⟩
      · have hneg3 : 0 ≤ r3 := by omega
        have hr' : r3 = r2 - (b.outer.length : Int) - (tot b.outer : Int) := by omega
        have HR3 := Lib.hid hr'
        clear hr hr'
        go_wp2_with fail
        refine (szWS_any A5 n5 c5 b.inner r3 _ w.heap.size ((h5.wide hB).below hb7) hb7.size (by omega) (by omega) w5 HWi.out).mono ?_
        rintro e w9 ⟨r4, rfl, hr, hr6, hr7, hb⟩
        have hb9 := hb7.trans (hb.mono hb7.size)
        clear hb hrow7 x0 x1 x2 x3 x4 x5
        by_cases hneg : r4 < 0
        · go_wp2_with fail
          go_ret
          exact ⟨-1, rfl, .inl (by omega), by omega, by omega, hb9⟩
        · have hneg4 : 0 ≤ r4 := by omega
          have hr' : r4 = r3 - (wrsWt b.inner : Int) := by omega
          have HR4 := Lib.hid hr'
          clear hr hr'
          go_wp2_with fail
          go_ret
          refine ⟨r4, rfl, .inr ?_, by omega, by omega, hb9⟩
          have q1 := HR.out
          have q2 := HR2.out
          have q3 := HR3.out
          have q4 := HR4.out
          have q5 := HL.out.2.1
          unfold bigWt
          omega

/-- a Bigraph whose slices are no longer than slices can be -/
def BigLn (b : Big) : Prop := b.nodes.length ≤ maxLen ∧ (∀ x ∈ b.nodes, x.links.length ≤ maxLen) ∧ b.sites.length ≤ maxLen ∧ b.inner.length ≤ maxLen
theorem bigLn_of {b : Big} (h : BigW b) : BigLn b := ⟨h.2.2.1, fun x hx => (h.2.2.2.1 x hx).2.2.1, h.2.2.2.2.1, h.2.2.2.2.2.2.2.2.1⟩

set_option maxHeartbeats 1600000 in
theorem eqBL_any (v v' : Value) (b : Big) (w : World) (B B' : Nat) (h : BigAt w B v b) (h' : BigAt w B' v' b) (hB : B ≤ w.heap.size) (hB' : B' ≤ w.heap.size) (hw : BigLn b) (hs : b.outer.length ≤ 1048576) :
    Calls Tryz.prog 10 #[v, v'] w fun e w' => e = .returned (.bool true) ∧ Below w.heap.size w w' := by
  obtain ⟨A1, n1, c1, A2, n2, c2, A4, n4, c4, A5, n5, c5, rfl, h1, h2, h4, h5⟩ := h
  obtain ⟨A1', n1', c1', A2', n2', c2', A4', n4', c4', A5', n5', c5', rfl, h1', h2', h4', h5'⟩ := h'
  obtain rfl : n1 = n1' := h1.1.symm.trans h1'.1
  obtain rfl : n2 = n2' := h2.len.symm.trans h2'.len
  obtain rfl : n4 = n4' := h4.strlen.symm.trans h4'.strlen
  obtain rfl : n5 = n5' := h5.1.symm.trans h5'.1
  obtain ⟨w1, wn, w2, w5⟩ := hw
  have l1 := h1.1
  have l2 := h2.len
  have l4 := h4.strlen
  have l5 := h5.1
  rw [l1] at w1
  rw [l2] at w2
  rw [l4] at hs
  rw [l5] at w5
  have HWn := Lib.hid (fun x hx => wn x hx)
  clear l1 l2 l4 l5 wn
  have HBox := Lib.hid ((six_new w (.int .i64 b.roots) (.slice A1 n1 c1) (.slice A2 n2 c2) (.int .i64 b.edges) (.slice A4 n4 c4) (.slice A5 n5 c5) 31).alloc (.cells #[.int .i64 b.roots, .slice A1' n1 c1', .slice A2' n2 c2', .int .i64 b.edges, .slice A4' n4 c4', .slice A5' n5 c5'] 31))
  have HBox' := Lib.hid (six_new (w.alloc (.cells #[.int .i64 b.roots, .slice A1 n1 c1, .slice A2 n2 c2, .int .i64 b.edges, .slice A4 n4 c4, .slice A5 n5 c5] 31)) (.int .i64 b.roots) (.slice A1' n1 c1') (.slice A2' n2 c2') (.int .i64 b.edges) (.slice A4' n4 c4') (.slice A5' n5 c5') 31)
  have HB0 := Lib.hid (((Below.refl w.heap.size w).alloc (Nat.le_refl _) (.cells #[.int .i64 b.roots, .slice A1 n1 c1, .slice A2 n2 c2, .int .i64 b.edges, .slice A4 n4 c4, .slice A5 n5 c5] 31)).alloc (by simp) (.cells #[.int .i64 b.roots, .slice A1' n1 c1', .slice A2' n2 c2', .int .i64 b.edges, .slice A4' n4 c4', .slice A5' n5 c5'] 31))
  go_enter Tryz.func10, Tryz.ntmps10
  go_wp2_with fail
  refine (eqNS_any A1 A1' n1 c1 c1' b.nodes _ w.heap.size w.heap.size ((h1.wide hB).below HB0.out) ((h1'.wide hB').below HB0.out) HB0.out.size HB0.out.size w1 HWn.out).mono ?_
  rintro e w6 ⟨rfl, hb⟩
  have hb6 := HB0.out.trans (hb.mono HB0.out.size)
  have hrow := HBox.out.of_block (hb.block w.heap.size HBox.out.lt)
  have hrow' := HBox'.out.of_block (hb.block _ HBox'.out.lt)
  rw [World.size_alloc] at hrow'
  obtain ⟨x0, x1, x2, x3, x4, x5⟩ := row6 hrow
  obtain ⟨y0, y1, y2, y3, y4, y5⟩ := row6 hrow'
  simp only [six] at x0 x1 x2 x3 x4 x5 y0 y1 y2 y3 y4 y5
  simp at x0 x1 x2 x3 x4 x5 y0 y1 y2 y3 y4 y5
  clear hb
  go_wp2_with fail
  refine (eqIS_any A2 A2' n2 c2 c2' b.sites _ w.heap.size w.heap.size ((h2.wide hB).below hb6) ((h2'.wide hB').below hb6) w2).mono ?_
  rintro e w7 ⟨rfl, hd⟩
  have hb7 := hb6.trans (hd.below _)
  have hrow7 := hrow.of_block ((hd.below w6.heap.size).block w.heap.size hrow.lt)
  have hrow7' := hrow'.of_block ((hd.below w6.heap.size).block _ hrow'.lt)
  clear x0 x1 x2 x3 x4 x5 y0 y1 y2 y3 y4 y5 hrow hrow' hd hb6
  obtain ⟨x0, x1, x2, x3, x4, x5⟩ := row6 hrow7
  obtain ⟨y0, y1, y2, y3, y4, y5⟩ := row6 hrow7'
  simp only [six] at x0 x1 x2 x3 x4 x5 y0 y1 y2 y3 y4 y5
  simp at x0 x1 x2 x3 x4 x5 y0 y1 y2 y3 y4 y5
  go_wp2_with fail
  refine (eq_any A4 A4' n4 c4 c4' b.outer _ w.heap.size w.heap.size ((h4.wide hB).below hb7) ((h4'.wide hB').below hb7) hs).mono ?_
  rintro e w8 ⟨rfl, hd⟩
  have hb8 := hb7.trans (hd.below _)
  have hrow8 := hrow7.of_block ((hd.below w7.heap.size).block w.heap.size hrow7.lt)
  have hrow8' := hrow7'.of_block ((hd.below w7.heap.size).block _ hrow7'.lt)
  clear x0 x1 x2 x3 x4 x5 y0 y1 y2 y3 y4 y5 hrow7 hrow7' hd hb7
  obtain ⟨x0, x1, x2, x3, x4, x5⟩ := row6 hrow8
  obtain ⟨y0, y1, y2, y3, y4, y5⟩ := row6 hrow8'
  simp only [six] at x0 x1 x2 x3 x4 x5 y0 y1 y2 y3 y4 y5
  simp at x0 x1 x2 x3 x4 x5 y0 y1 y2 y3 y4 y5
  go_wp2_with fail
  refine (eqWS_any A5 A5' n5 c5 c5' b.inner _ w.heap.size w.heap.size ((h5.wide hB).below hb8) ((h5'.wide hB').below hb8) hb8.size hb8.size w5).mono ?_
  rintro e w9 ⟨rfl, hb⟩
  have hb9 := hb8.trans (hb.mono hb8.size)
  clear x0 x1 x2 x3 x4 x5 y0 y1 y2 y3 y4 y5 hrow8 hrow8' hb
  go_wp2_with fail
  go_ret
  exact ⟨rfl, hb9⟩
theorem eqB_any (v v' : Value) (b : Big) (w : World) (B B' : Nat) (h : BigAt w B v b) (h' : BigAt w B' v' b) (hB : B ≤ w.heap.size) (hB' : B' ≤ w.heap.size) (hw : BigW b) (hs : b.outer.length ≤ 1048576) :
    Calls Tryz.prog 10 #[v, v'] w fun e w' => e = .returned (.bool true) ∧ Below w.heap.size w w' := eqBL_any v v' b w B B' h h' hB hB' (bigLn_of hw) hs
end Go.Proofs.YtlpgldejmdiceabGreat.hb
end

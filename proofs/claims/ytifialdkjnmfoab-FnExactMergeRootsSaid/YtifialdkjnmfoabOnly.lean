/- A world in which only blocks of one range may have changed, and rows are still rows. Sums over lists. -/
import Derived.Test.YtifialdkjnmfoabKit
namespace Go.Proofs.Ytifialdkjnmfoab.only
set_option linter.unusedVariables false
open kit
open Go.RowKit

structure Only (lo hi : Nat) (w w' : World) : Prop where
  os : w'.os = w.os
  tape : w'.tape = w.tape
  output : w'.output = w.output
  size : w.heap.size ≤ w'.heap.size
  block : ∀ k, k < w.heap.size → (k < lo ∨ hi ≤ k) → w'.heap[k]? = w.heap[k]?
  rows : ∀ b t n, (∃ f, w.rowIs b t n f) → ∃ f, w'.rowIs b t n f

theorem Only.refl (lo hi : Nat) (w : World) : Only lo hi w w := ⟨rfl, rfl, rfl, Nat.le_refl _, fun _ _ _ => rfl, fun _ _ _ h => h⟩
theorem Only.trans {lo hi : Nat} {a b c : World} (h : Only lo hi a b) (k : Only lo hi b c) : Only lo hi a c :=
  ⟨k.os.trans h.os, k.tape.trans h.tape, k.output.trans h.output, Nat.le_trans h.size k.size, fun i hi h' => (k.block i (Nat.lt_of_lt_of_le hi h.size) h').trans (h.block i hi h'), fun b t n hr => k.rows b t n (h.rows b t n hr)⟩
theorem Only.of_below {lo hi : Nat} {w w' : World} (h : Below w.heap.size w w') : Only lo hi w w' :=
  ⟨h.os, h.tape, h.output, h.size, fun k hk _ => h.block k hk, fun b t n ⟨f, hf⟩ => ⟨f, hf.of_block (h.block b hf.lt)⟩⟩
theorem Only.set {lo hi : Nat} (w : World) {g : Nat} (h1 : lo ≤ g) (h2 : g < hi) (o : Nat) (u : Value) : Only lo hi w (w.setCell ⟨g, o, none⟩ u) :=
  ⟨rfl, rfl, rfl, by simp [World.setCell], fun k _ hk => Below.heap_setCell _ _ _ _ (by show k ≠ g; omega), fun b t n ⟨f, hf⟩ => by
    by_cases e : b = g
    · subst e; exact ⟨_, hf.set o u⟩
    · exact ⟨f, hf.setOther (a := ⟨g, o, none⟩) e u⟩⟩
theorem Only.wide {lo hi lo' hi' : Nat} {w w' : World} (h : Only lo hi w w') (h1 : lo' ≤ lo) (h2 : hi ≤ hi') : Only lo' hi' w w' :=
  ⟨h.os, h.tape, h.output, h.size, fun k hk h' => h.block k hk (by omega), h.rows⟩
theorem rowIs_uniq {w : World} {b : Nat} {t t' : TypeId} {n n' : Nat} {f f' : Nat → Value} (h : w.rowIs b t n f) (h' : w.rowIs b t' n' f') : t = t' ∧ n = n' := by
  obtain ⟨c, hb, hn, _⟩ := h
  obtain ⟨c', hb', hn', _⟩ := h'
  rw [hb] at hb'
  simp at hb'
  obtain ⟨rfl, rfl⟩ := hb'
  exact ⟨rfl, hn.symm.trans hn'⟩
theorem Only.of_grown {lo hi : Nat} {w w' : World} {g : Nat} {t : TypeId} {n : Nat} {f f' : Nat → Value} (hg : w.grownBy w' (some g)) (hr : w.rowIs g t n f) (hr' : w'.rowIs g t n f') (h1 : lo ≤ g) (h2 : g < hi) : Only lo hi w w' :=
  ⟨hg.os, hg.tape, hg.output, hg.size, fun k hk h' => hg.block k hk (fun e => by injection e with e; omega), fun b t2 n2 ⟨f2, hf2⟩ => by
    by_cases e : b = g
    · subst e
      obtain ⟨rfl, rfl⟩ := rowIs_uniq hr hf2
      exact ⟨f', hr'⟩
    · exact ⟨f2, hf2.of_block (hg.block b hf2.lt (fun e2 => e (by injection e2)))⟩⟩
/-- below the range it is as it was -/
theorem Only.below {lo hi : Nat} {w w' : World} (h : Only lo hi w w') (hlo : lo ≤ w.heap.size) : Below lo w w' := ⟨h.os, h.tape, h.output, h.size, fun k hk => h.block k (by omega) (.inl hk)⟩
theorem Only.cell {lo hi : Nat} {w w' : World} (h : Only lo hi w w') {p : Addr} (hp : p.block < w.heap.size) (h2 : p.block < lo ∨ hi ≤ p.block) : w'.cell? p = w.cell? p := World.cell?_of_block (w := w) (h.block p.block hp h2)

theorem row_new (w : World) (c : Array Value) (t : TypeId) (m : Nat) (h : c.size = m) : (w.alloc (.cells c t)).rowIs w.heap.size t m (fun i => (c[i]?).getD undef) :=
  ⟨c, (MapKept.heap_alloc w _).1, h, fun i hi => by
    simp [show i < c.size by omega]⟩

/-- three cells of a row put in place -/
def put3 (f : Nat → Value) (k : Nat) (a b c : Value) : Nat → Value := fun i => if i = k * 3 + 2 then c else if i = k * 3 + 1 then b else if i = k * 3 then a else f i
theorem put3_old {f : Nat → Value} {k j : Nat} {a b c : Value} (h : j < k) : put3 f k a b c (j * 3) = f (j * 3) ∧ put3 f k a b c (j * 3 + 1) = f (j * 3 + 1) ∧ put3 f k a b c (j * 3 + 2) = f (j * 3 + 2) := by
  unfold put3
  refine ⟨?_, ?_, ?_⟩ <;> rw [if_neg (by omega), if_neg (by omega), if_neg (by omega)]
theorem put3_new {f : Nat → Value} {k : Nat} {a b c : Value} : put3 f k a b c (k * 3) = a ∧ put3 f k a b c (k * 3 + 1) = b ∧ put3 f k a b c (k * 3 + 2) = c := by
  unfold put3
  exact ⟨by rw [if_neg (by omega), if_neg (by omega), if_pos rfl], by rw [if_neg (by omega), if_pos rfl], if_pos rfl⟩
theorem put3_row {w : World} {b : Nat} {t : TypeId} {n : Nat} {f : Nat → Value} (h : w.rowIs b t n f) (k : Nat) (x y z : Value) :
    (((w.setCell ⟨b, k * 3, none⟩ x).setCell ⟨b, k * 3 + 1, none⟩ y).setCell ⟨b, k * 3 + 2, none⟩ z).rowIs b t n (put3 f k x y z) := ((h.set (k * 3) x).set (k * 3 + 1) y).set (k * 3 + 2) z
theorem put3_below {B : Nat} {a w : World} {b : Nat} (h : Below B a w) (hB : B ≤ b) (k : Nat) (x y z : Value) : Below B a (((w.setCell ⟨b, k * 3, none⟩ x).setCell ⟨b, k * 3 + 1, none⟩ y).setCell ⟨b, k * 3 + 2, none⟩ z) :=
  ((h.setCell (p := ⟨b, k * 3, none⟩) hB x).setCell (p := ⟨b, k * 3 + 1, none⟩) hB y).setCell (p := ⟨b, k * 3 + 2, none⟩) hB z
/-- two cells -/
def put2 (f : Nat → Value) (k : Nat) (a b : Value) : Nat → Value := fun i => if i = k * 2 + 1 then b else if i = k * 2 then a else f i
theorem put2_old {f : Nat → Value} {k j : Nat} {a b : Value} (h : j < k) : put2 f k a b (j * 2) = f (j * 2) ∧ put2 f k a b (j * 2 + 1) = f (j * 2 + 1) := by
  unfold put2
  refine ⟨?_, ?_⟩ <;> rw [if_neg (by omega), if_neg (by omega)]
theorem put2_new {f : Nat → Value} {k : Nat} {a b : Value} : put2 f k a b (k * 2) = a ∧ put2 f k a b (k * 2 + 1) = b := by
  unfold put2
  exact ⟨by rw [if_neg (by omega), if_pos rfl], if_pos rfl⟩
theorem put2_row {w : World} {b : Nat} {t : TypeId} {n : Nat} {f : Nat → Value} (h : w.rowIs b t n f) (k : Nat) (x y : Value) :
    ((w.setCell ⟨b, k * 2, none⟩ x).setCell ⟨b, k * 2 + 1, none⟩ y).rowIs b t n (put2 f k x y) := (h.set (k * 2) x).set (k * 2 + 1) y
theorem put2_below {B : Nat} {a w : World} {b : Nat} (h : Below B a w) (hB : B ≤ b) (k : Nat) (x y : Value) : Below B a ((w.setCell ⟨b, k * 2, none⟩ x).setCell ⟨b, k * 2 + 1, none⟩ y) :=
  (h.setCell (p := ⟨b, k * 2, none⟩) hB x).setCell (p := ⟨b, k * 2 + 1, none⟩) hB y

/-- sums over lists -/
def sumBy {α : Type} (f : α → Nat) : List α → Nat
  | [] => 0
  | x :: r => f x + sumBy f r
theorem sumBy_append {α : Type} (f : α → Nat) (a b : List α) : sumBy f (a ++ b) = sumBy f a + sumBy f b := by
  induction a with
  | nil => simp [sumBy]
  | cons x a ih => simp only [List.cons_append, sumBy, ih]; omega
theorem sumBy_snoc {α : Type} (f : α → Nat) {xs : List α} {k : Nat} {x : α} (h : xs[k]? = some x) : sumBy f (xs.take (k + 1)) = sumBy f (xs.take k) + f x := by
  rw [take_snoc h, sumBy_append]; simp [sumBy]
theorem sumBy_mem {α : Type} (f : α → Nat) {xs : List α} {x : α} (h : x ∈ xs) : f x ≤ sumBy f xs := by
  induction xs with
  | nil => cases h
  | cons y r ih =>
    simp only [sumBy]
    rcases List.mem_cons.1 h with rfl | h
    · omega
    · have := ih h; omega
theorem sumBy_take {α : Type} (f : α → Nat) (xs : List α) (k : Nat) : sumBy f (xs.take k) ≤ sumBy f xs := by
  have := sumBy_append f (xs.take k) (xs.drop k)
  rw [List.take_append_drop] at this
  omega

/-- what a size function of the law tells: a number below 0, or what is left -/
def szP (t : Nat) (left : Int) (w : World) (e : Ending) (w' : World) : Prop :=
  ∃ r : Int, e = .returned (.int .i64 r) ∧ (r < 0 ∨ r = left - (t : Int)) ∧ -1 ≤ r ∧ r ≤ left ∧ Below w.heap.size w w'
end Go.Proofs.Ytifialdkjnmfoab.only

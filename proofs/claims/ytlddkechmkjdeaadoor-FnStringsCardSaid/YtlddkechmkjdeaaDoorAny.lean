/- The short strings that the cursor draws. -/
import Derived.Test.YtlddkechmkjdeaaDoorCur
import Derived.Test.YtlddkechmkjdeaaDoorSplit
namespace Go.Proofs.YtlddkechmkjdeaaDoor.draws
open kit hs split curs
open Go.RowKit

def anys : List ByteArray := [⟨#[]⟩, ⟨#[97]⟩, ⟨#[97, 44, 98]⟩, ⟨#[115, 111, 109, 101, 32, 119, 111, 114, 100, 115]⟩, ⟨#[120, 35, 121]⟩, ⟨#[45, 49, 50]⟩, ⟨#[0, 255]⟩, ⟨#[44, 44]⟩, ⟨#[48]⟩]
theorem anys_size {s : ByteArray} (h : s ∈ anys) : s.size ≤ 10 := by
  have : ∀ s ∈ anys, s.size ≤ 10 := by decide
  exact this s h
def anyPost (B p k : Nat) (w : World) (e : Ending) (w' : World) : Prop :=
  ∃ s, e = .returned (.string s) ∧ s.size ≤ 10 ∧ Cur w' B p (k + 2) ∧ w.grownBy w' (some p)

set_option maxHeartbeats 800000 in
theorem any_any (B p k : Nat) (w : World) (hk : k ≤ 999999) (h : Cur w B p k) :
    Calls Tryd.prog 30 #[.pointer (some ⟨p, 0, none⟩)] w (anyPost B p k w) := by
  have hlt := h.lt
  go_enter Tryd.func30, Tryd.ntmps30
  go_wp2_with fail
  refine (of_any B p k w.heap.size 9 _ anys _ hk (h.alloc _) (((sr_new w anys 9)).wide (by simp)) (by omega) (by omega) (by omega)).mono ?_
  rintro e w1 ⟨s, hs, rfl, hc, hg⟩
  have HS := Lib.hid (anys_size hs)
  clear hs
  go_wp2_with fail
  go_ret
  exact ⟨s, rfl, HS.out, hc, (World.grownBy_alloc w _ _).trans hg⟩

/-- one of some strings, from a new row -/
theorem from_any (B p k : Nat) (ss : List ByteArray) (M : Nat) (w : World) (hk : k ≤ 999999) (h : Cur w B p k) (h1 : 1 ≤ ss.length) (h2 : ss.length ≤ 65536) (hM : ∀ s ∈ ss, s.size ≤ M) :
    Calls Tryd.prog 27 #[.pointer (some ⟨p, 0, none⟩), .slice (some ⟨w.heap.size, 0, none⟩) ss.length ss.length] (w.alloc (.cells (ss.map Value.string).toArray 9)) fun e w' => ∃ s : ByteArray, e = .returned (.string s) ∧ s.size ≤ M ∧ Cur w' B p (k + 2) ∧ w.grownBy w' (some p) :=
  (of_any B p k w.heap.size ss.length ss.length ss _ hk (h.alloc _) ((sr_new w ss 9).wide (by simp)) (by have := h.lt; omega) h1 h2).mono fun e w1 ⟨s, hs, he, hc, hg⟩ => ⟨s, he, hM s hs, hc, (World.grownBy_alloc w _ _).trans hg⟩

theorem below_cur {w a b : World} {p : Nat} (h : Below w.heap.size w a) (k : a.grownBy b (some p)) (hg : w.heap.size ≤ p) : Below w.heap.size w b :=
  ⟨k.os.trans h.os, k.tape.trans h.tape, k.output.trans h.output, Nat.le_trans h.size k.size, fun i hi => (k.block i (Nat.lt_of_lt_of_le hi h.size) (fun e => by injection e with e; omega)).trans (h.block i hi)⟩
end Go.Proofs.YtlddkechmkjdeaaDoor.draws

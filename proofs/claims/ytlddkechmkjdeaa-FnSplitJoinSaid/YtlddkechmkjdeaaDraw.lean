/- The drawn arguments of chapter 1: whatever the code, each draw gives short strings. -/
import Derived.Test.YtlddkechmkjdeaaCur
import Derived.Test.YtlddkechmkjdeaaSplit
namespace Go.Proofs.Ytlddkechmkjdeaa.draws
open kit hs split curs
open Go.RowKit

def anys : List ByteArray := [⟨#[]⟩, ⟨#[97]⟩, ⟨#[97, 44, 98]⟩, ⟨#[115, 111, 109, 101, 32, 119, 111, 114, 100, 115]⟩, ⟨#[120, 35, 121]⟩, ⟨#[45, 49, 50]⟩, ⟨#[0, 255]⟩, ⟨#[44, 44]⟩, ⟨#[48]⟩]
theorem anys_size {s : ByteArray} (h : s ∈ anys) : s.size ≤ 10 := by
  have : ∀ s ∈ anys, s.size ≤ 10 := by decide
  exact this s h
def anyPost (B p k : Nat) (w : World) (e : Ending) (w' : World) : Prop :=
  ∃ s, e = .returned (.string s) ∧ s.size ≤ 10 ∧ Cur w' B p (k + 2) ∧ w.grownBy w' (some p)

set_option maxHeartbeats 800000 in
theorem any_any (B p k : Nat) (w : World) (hk : k ≤ 999999) (h : Cur w B p k) :
    Calls Try.prog 25 #[.pointer (some ⟨p, 0, none⟩)] w (anyPost B p k w) := by
  have hlt := h.lt
  go_enter Try.func25, Try.ntmps25
  go_wp2_with fail
  refine (of_any B p k w.heap.size 9 _ anys _ hk (h.alloc _) (((sr_new w anys 9)).wide (by simp)) (by omega) (by omega) (by omega)).mono ?_
  rintro e w1 ⟨s, hs, rfl, hc, hg⟩
  have HS := Lib.hid (anys_size hs)
  clear hs
  go_wp2_with fail
  go_ret
  exact ⟨s, rfl, HS.out, hc, (World.grownBy_alloc w _ _).trans hg⟩

/-- one of some strings, from a new row -/
theorem from_any (B p k : Nat) (ss : List ByteArray) (M : Nat) (w : World) (hk : k ≤ 999999) (h : Cur w B p k) (h1 : 1 ≤ ss.length) (h2 : ss.length ≤ 65536) (hM : ∀ s ∈ ss, s.size ≤ M) :
    Calls Try.prog 26 #[.pointer (some ⟨p, 0, none⟩), .slice (some ⟨w.heap.size, 0, none⟩) ss.length ss.length] (w.alloc (.cells (ss.map Value.string).toArray 9)) fun e w' => ∃ s : ByteArray, e = .returned (.string s) ∧ s.size ≤ M ∧ Cur w' B p (k + 2) ∧ w.grownBy w' (some p) :=
  (of_any B p k w.heap.size ss.length ss.length ss _ hk (h.alloc _) ((sr_new w ss 9).wide (by simp)) (by have := h.lt; omega) h1 h2).mono fun e w1 ⟨s, hs, he, hc, hg⟩ => ⟨s, he, hM s hs, hc, (World.grownBy_alloc w _ _).trans hg⟩

theorem below_cur {w a b : World} {p : Nat} (h : Below w.heap.size w a) (k : a.grownBy b (some p)) (hg : w.heap.size ≤ p) : Below w.heap.size w b :=
  ⟨k.os.trans h.os, k.tape.trans h.tape, k.output.trans h.output, Nat.le_trans h.size k.size, fun i hi => (k.block i (Nat.lt_of_lt_of_le hi h.size) (fun e => by injection e with e; omega)).trans (h.block i hi)⟩

def twoPost (w : World) (e : Ending) (w' : World) : Prop :=
  ∃ a b : ByteArray, e = .returned (.tuple #[.string a, .string b]) ∧ a.size ≤ 10 ∧ b.size ≤ 10 ∧ Below w.heap.size w w'

set_option maxHeartbeats 800000 in
theorem drawLess_any (A : Option Addr) (n c : Nat) (zs : List Int) (w : World) (h : SR w w.heap.size A n (zs.map (Value.int .u8))) (hz : ∀ z ∈ zs, 0 ≤ z ∧ z ≤ 255) (hn : n ≤ 65536) :
    Calls Try.prog 14 #[.slice A n c] w (twoPost w) := by
  have hcur := Cur.new c h hz hn
  have HZ := Lib.hid hz
  clear hz
  have hb0 : Below w.heap.size w (w.alloc (.cells #[.slice A n c, .int .i64 0, .int .u64 0] 44)) := (Below.refl _ _).alloc (Nat.le_refl _) _
  go_enter Try.func14, Try.ntmps14
  go_wp2_with fail
  refine (any_any _ _ _ _ (by omega) hcur).mono ?_
  rintro e w1 ⟨s1, rfl, hs1, hc1, hg1⟩
  have hb1 := below_cur hb0 hg1 (Nat.le_refl _)
  go_wp2_with fail
  refine (any_any _ _ _ _ (by omega) hc1).mono ?_
  rintro e w2 ⟨s2, rfl, hs2, hc2, hg2⟩
  have hb2 := below_cur hb1 hg2 (Nat.le_refl _)
  go_wp2_with fail
  go_ret2
  exact ⟨s1, s2, rfl, hs1, hs2, hb2⟩

def seps1 : List ByteArray := [⟨#[44]⟩, ⟨#[44]⟩, ⟨#[32]⟩, ⟨#[]⟩, ⟨#[44, 44]⟩]
set_option maxHeartbeats 800000 in
theorem drawSplit_any (A : Option Addr) (n c : Nat) (zs : List Int) (w : World) (h : SR w w.heap.size A n (zs.map (Value.int .u8))) (hz : ∀ z ∈ zs, 0 ≤ z ∧ z ≤ 255) (hn : n ≤ 65536) :
    Calls Try.prog 9 #[.slice A n c] w (twoPost w) := by
  have hcur := Cur.new c h hz hn
  have HZ := Lib.hid hz
  clear hz
  have hb0 : Below w.heap.size w (w.alloc (.cells #[.slice A n c, .int .i64 0, .int .u64 0] 44)) := (Below.refl _ _).alloc (Nat.le_refl _) _
  go_enter Try.func9, Try.ntmps9
  go_wp2_with fail
  refine (any_any _ _ _ _ (by omega) hcur).mono ?_
  rintro e w1 ⟨s1, rfl, hs1, hc1, hg1⟩
  have hb1 := below_cur hb0 hg1 (Nat.le_refl _)
  go_wp2_with fail
  refine (from_any _ _ _ seps1 10 _ (by omega) hc1 (by decide) (by decide) (by decide)).mono ?_
  rintro e w2 ⟨s2, rfl, hs2, hc2, hg2⟩
  have hb2 := below_cur hb1 hg2 (Nat.le_refl _)
  go_wp2_with fail
  go_ret2
  exact ⟨s1, s2, rfl, hs1, hs2, hb2⟩
end Go.Proofs.Ytlddkechmkjdeaa.draws

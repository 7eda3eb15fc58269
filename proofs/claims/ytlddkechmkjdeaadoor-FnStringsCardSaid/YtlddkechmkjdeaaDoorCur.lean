/- The law's own drawing cursor: each of its draws gives some number in its range, and moves the cursor alone. -/
import Derived.Test.YtlddkechmkjdeaaDoorKit
import Derived.Deep.QuietTactic
import Derived.BigQuiet
import Derived.BigRegion
namespace Go.Proofs.YtlddkechmkjdeaaDoor.curs
open kit
open Go.RowKit

/-- block p is a cursor: it reads bytes below block B, and has been asked at most k times -/
def Cur (w : World) (B p k : Nat) : Prop := ∃ (A : Option Addr) (n c : Nat) (zs : List Int) (at_ sd : Int),
  w.heap[p]? = some (.cells #[.slice A n c, .int .i64 at_, .int .u64 sd] 37 (0, 0)) ∧ B ≤ p ∧ SR w B A n (zs.map (Value.int .u8)) ∧ (∀ z ∈ zs, 0 ≤ z ∧ z ≤ 255) ∧ n ≤ 65536 ∧ 0 ≤ at_ ∧ at_ ≤ k ∧ 0 ≤ sd ∧ sd < 18446744073709551616

theorem u64_bd {e x : Int} (h : IntKind.u64.wrap e = x) : 0 ≤ x ∧ x < 18446744073709551616 := by
  have := bounds_u64 (wf_wrap .u64 e)
  rw [h] at this
  omega
theorem two_stores {w : World} {p : Nat} {v : Value} {a b : Int} {t : TypeId} (h : w.heap[p]? = some (.cells #[v, .int .i64 a, .int .u64 b] t (0, 0))) (q : Nat) (x y : Int) :
    (((w.drewN q).setCell ⟨p, 1, none⟩ (.int .i64 x)).setCell ⟨p, 2, none⟩ (.int .u64 y)).heap[p]? = some (.cells #[v, .int .i64 x, .int .u64 y] t (0, 0)) ∧ w.grownBy (((w.drewN q).setCell ⟨p, 1, none⟩ (.int .i64 x)).setCell ⟨p, 2, none⟩ (.int .u64 y)) (some p) := by
  have h' : (w.drewN q).heap[p]? = some (.cells #[v, .int .i64 a, .int .u64 b] t (0, 0)) := h
  refine ⟨?_, ?_⟩
  · simp only [World.setCell, Array.getElem?_modify, if_true, h', Option.map_some]
    rfl
  · refine ⟨rfl, rfl, rfl, ?_, fun i hi hne => ?_⟩
    · simp [World.setCell, World.drewN]
    · rw [Below.heap_setCell _ _ _ _ (fun e => hne (by rw [e])), Below.heap_setCell _ _ _ _ (fun e => hne (by rw [e]))]
      rfl

theorem byte_and (x : Int) : 0 ≤ wrap64 (bits .and .u64 x 255) ∧ wrap64 (bits .and .u64 x 255) ≤ 255 := by
  have e : bits .and .u64 x 255 = IntKind.u64.wrap ((BitVec.ofInt 64 x &&& BitVec.ofInt 64 255).toNat : Int) := rfl
  have h255 : (BitVec.ofInt 64 255).toNat = 255 := by decide
  have hle : (BitVec.ofInt 64 x &&& BitVec.ofInt 64 255).toNat ≤ 255 := by
    rw [BitVec.toNat_and, h255]
    exact Nat.and_le_right
  obtain ⟨y, hy⟩ : ∃ y, (BitVec.ofInt 64 x &&& BitVec.ofInt 64 255).toNat = y := ⟨_, rfl⟩
  rw [hy] at e hle
  have e2 : IntKind.u64.wrap (y : Int) = y := by rw [IntKind.wrap_u64]; omega
  rw [e, e2, IntWalk.wrap64_in _ ⟨by omega, by omega⟩]
  omega

def nextPost (B p k : Nat) (w : World) (e : Ending) (w' : World) : Prop :=
  ∃ x : Int, e = .returned (.int .i64 x) ∧ 0 ≤ x ∧ x ≤ 255 ∧ Cur w' B p (k + 1) ∧ w.grownBy w' (some p)

theorem grown_drewN {a w : World} {row : Option Nat} (h : a.grownBy w row) (n : Nat) : a.grownBy (w.drewN n) row := ⟨h.os, h.tape, h.output, h.size, h.block⟩
theorem cur_sr {w W : World} {B p n : Nat} {A : Option Addr} {xs : List Value} (h : SR w B A n xs) (hg : w.grownBy W (some p)) (hB : B ≤ p) (hw : B ≤ w.heap.size) (q : Nat) : SR (W.drewN q) B A n xs :=
  h.move fun r hr => World.cell?_of_block (w := w) (hg.block r.block (by omega) (fun e => by injection e with e; omega))

set_option maxHeartbeats 1600000 in
theorem next_any (B p k : Nat) (w : World) (hk : k ≤ 1000000) (h : Cur w B p k) :
    Calls Tryd.prog 37 #[.pointer (some ⟨p, 0, none⟩)] w (nextPost B p k w) := by
  obtain ⟨A, n, c, zs, at_, sd, hp, hB, hsr, hz, hn, ha0, ha1, hs0, hs1⟩ := h
  have c0 : w.cell? ⟨p, 0, none⟩ = some (.slice A n c) := cell_of_row w p 0 _ _ _ hp
  have c1 : w.cell? ⟨p, 1, none⟩ = some (.int .i64 at_) := cell_of_row w p 1 _ _ _ hp
  have c2 : w.cell? ⟨p, 2, none⟩ = some (.int .u64 sd) := cell_of_row w p 2 _ _ _ hp
  have f1 : w.frozen? ⟨p, 1, none⟩ = false := by simp [World.frozen?, hp]
  have f2 : w.frozen? ⟨p, 2, none⟩ = false := by simp [World.frozen?, hp]
  have hBw : B ≤ w.heap.size := by
    have := (Array.getElem?_eq_some_iff.1 hp).1
    omega
  have HP := Lib.hid hp
  clear hp
  by_cases hlt : at_ < n
  · obtain ⟨j, rfl⟩ := Int.eq_ofNat_of_zero_le ha0
    have hjn : j < n := by omega
    obtain ⟨b, off, u, rfl, hb, hu, hc⟩ := hsr.get hjn
    rw [List.getElem?_map] at hu
    obtain ⟨z, hz1, rfl⟩ := Option.map_eq_some_iff.1 hu
    have hzb := hz z (List.mem_of_getElem? hz1)
    have hz0 := hzb.1
    have hz255 := hzb.2
    have HZ := Lib.hid hz
    clear hu hz1 hz hzb
    go_enter Tryd.func37, Tryd.ntmps37
    go_wp2_with fail
    go_quiet (fail)
    revert nq
    intro q1
    go_wp2_with fail
    go_quiet (fail)
    go_wp2_with fail
    obtain ⟨sd2, hsd⟩ : ∃ x, IntKind.u64.wrap (IntKind.u64.wrap (IntKind.u64.wrap (sd * 6364136223846793005) + z) + 462197) = x := ⟨_, rfl⟩
    rw [hsd]
    have hb2 := u64_bd hsd
    clear hsd
    obtain ⟨hp2, hgr⟩ := two_stores HP.out (q1 + nq) ((j : Int) + 1) sd2
    obtain ⟨W2, hW2⟩ : ∃ x, ((w.drewN (q1 + nq)).setCell ⟨p, 1, none⟩ (.int .i64 ((j : Int) + 1))).setCell ⟨p, 2, none⟩ (.int .u64 sd2) = x := ⟨_, rfl⟩
    rw [hW2] at hp2 hgr ⊢
    clear hW2 c0 c1 c2 f1 f2
    have c0 : W2.cell? ⟨p, 0, none⟩ = some (.slice (some ⟨b, off, none⟩) n c) := cell_of_row W2 p 0 _ _ _ hp2
    have c1 : W2.cell? ⟨p, 1, none⟩ = some (.int .i64 ((j : Int) + 1)) := cell_of_row W2 p 1 _ _ _ hp2
    have c2 : W2.cell? ⟨p, 2, none⟩ = some (.int .u64 sd2) := cell_of_row W2 p 2 _ _ _ hp2
    have hj1 : (j : Int) + 1 ≤ n := by omega
    have hd1 : decide ((j : Int) + 1 ≤ n) = true := decide_eq_true hj1
    have HP2 := Lib.hid hp2
    clear hp2
    go_quiet (fail)
    go_wp2_with fail
    go_ret
    exact ⟨_, rfl, hz0, hz255, ⟨_, n, c, zs, (j : Int) + 1, sd2, HP2.out, hB, cur_sr hsr hgr hB hBw _, HZ.out, hn, by omega, by push_cast; omega, hb2.1, hb2.2⟩, grown_drewN hgr _⟩
  · have hge : (n : Int) ≤ at_ := by omega
    go_enter Tryd.func37, Tryd.ntmps37
    go_wp2_with fail
    go_quiet (fail)
    go_wp2_with fail
    obtain ⟨sd2, hsd⟩ : ∃ x, IntKind.u64.wrap (IntKind.u64.wrap (IntKind.u64.wrap (sd * 6364136223846793005)) + 462197) = x := ⟨_, rfl⟩
    rw [hsd]
    have hb := u64_bd hsd
    clear hsd
    obtain ⟨hp2, hgr⟩ := two_stores HP.out nq (at_ + 1) sd2
    obtain ⟨W2, hW2⟩ : ∃ x, ((w.drewN nq).setCell ⟨p, 1, none⟩ (.int .i64 (at_ + 1))).setCell ⟨p, 2, none⟩ (.int .u64 sd2) = x := ⟨_, rfl⟩
    rw [hW2] at hp2 hgr ⊢
    clear hW2 c0 c1 c2 f1 f2
    have c0 : W2.cell? ⟨p, 0, none⟩ = some (.slice A n c) := cell_of_row W2 p 0 _ _ _ hp2
    have c1 : W2.cell? ⟨p, 1, none⟩ = some (.int .i64 (at_ + 1)) := cell_of_row W2 p 1 _ _ _ hp2
    have c2 : W2.cell? ⟨p, 2, none⟩ = some (.int .u64 sd2) := cell_of_row W2 p 2 _ _ _ hp2
    have HP2 := Lib.hid hp2
    clear hp2
    go_quiet (fail)
    go_wp2_with fail
    go_ret
    have hx := byte_and (sd2 / 1099511627776)
    exact ⟨_, rfl, hx.1, hx.2, ⟨A, n, c, zs, at_ + 1, sd2, HP2.out, hB, cur_sr hsr hgr hB hBw _, hz, hn, by omega, by push_cast; omega, hb.1, hb.2⟩, grown_drewN hgr _⟩

/-- a draw below m: some number from 0 to m - 1 -/
def pickPost (B p k : Nat) (m : Int) (w : World) (e : Ending) (w' : World) : Prop :=
  ∃ x : Int, e = .returned (.int .i64 x) ∧ 0 ≤ x ∧ x < m ∧ Cur w' B p (k + 2) ∧ w.grownBy w' (some p)
theorem Cur.up {w : World} {B p k k' : Nat} (h : Cur w B p k) (hk : k ≤ k') : Cur w B p k' := by
  obtain ⟨A, n, c, zs, a, sd, h1, h2, h3, h4, h5, h6, h7, h8, h9⟩ := h
  exact ⟨A, n, c, zs, a, sd, h1, h2, h3, h4, h5, h6, by omega, h8, h9⟩

set_option maxHeartbeats 1600000 in
theorem pick_any (B p k : Nat) (m : Int) (w : World) (hk : k ≤ 999999) (h : Cur w B p k) (hm : 1 ≤ m) (hm2 : m ≤ 65536) :
    Calls Tryd.prog 22 #[.pointer (some ⟨p, 0, none⟩), .int .i64 m] w (pickPost B p k m w) := by
  by_cases h1 : m ≤ 1
  · go_enter Tryd.func22, Tryd.ntmps22
    go_wp2_with fail
    go_ret
    exact ⟨0, rfl, by omega, by omega, h.up (by omega), World.grownBy.refl w _⟩
  · have h1' : 1 < m := by omega
    by_cases h2 : 200 < m
    · go_enter Tryd.func22, Tryd.ntmps22
      go_wp2_with fail
      refine (next_any B p k _ (by omega) h).mono ?_
      rintro e w1 ⟨x, rfl, hx0, hx1, hc1, hg1⟩
      go_wp2_with fail
      refine (next_any B p (k + 1) _ (by omega) hc1).mono ?_
      rintro e w2 ⟨y, rfl, hy0, hy1, hc2, hg2⟩
      have hp0 : 0 ≤ x * 256 + y := by omega
      have hp1 : 0 ≤ (x * 256 + y) % m := Int.emod_nonneg _ (by omega)
      have hp2 : (x * 256 + y) % m < m := Int.emod_lt_of_pos _ (by omega)
      have HG := Lib.hid (hg1.trans hg2)
      clear hg1 hg2 hc1
      go_wp2_with fail
      go_ret
      exact ⟨_, rfl, hp1, hp2, hc2, HG.out⟩
    · have h2' : m ≤ 200 := by omega
      go_enter Tryd.func22, Tryd.ntmps22
      go_wp2_with fail
      refine (next_any B p k _ (by omega) h).mono ?_
      rintro e w1 ⟨x, rfl, hx0, hx1, hc1, hg1⟩
      have hp1 : 0 ≤ x % m := Int.emod_nonneg _ (by omega)
      have hp2 : x % m < m := Int.emod_lt_of_pos _ (by omega)
      go_wp2_with fail
      go_ret
      exact ⟨_, rfl, hp1, hp2, hc1.up (by omega), hg1⟩

def onePost (B p k : Nat) (w : World) (e : Ending) (w' : World) : Prop :=
  ∃ b : Bool, e = .returned (.bool b) ∧ Cur w' B p (k + 2) ∧ w.grownBy w' (some p)
set_option maxHeartbeats 800000 in
theorem one_any (B p k : Nat) (m : Int) (w : World) (hk : k ≤ 999999) (h : Cur w B p k) (hm : 1 ≤ m) (hm2 : m ≤ 65536) :
    Calls Tryd.prog 26 #[.pointer (some ⟨p, 0, none⟩), .int .i64 m] w (onePost B p k w) := by
  go_enter Tryd.func26, Tryd.ntmps26
  go_wp2_with fail
  refine (pick_any B p k m _ hk h hm hm2).mono ?_
  rintro e w1 ⟨x, rfl, hx0, hx1, hc1, hg1⟩
  go_wp2_with fail
  go_ret
  exact ⟨_, rfl, hc1, hg1⟩

/-- one of some strings -/
def ofPost (B p k : Nat) (ss : List ByteArray) (w : World) (e : Ending) (w' : World) : Prop :=
  ∃ s ∈ ss, e = .returned (.string s) ∧ Cur w' B p (k + 2) ∧ w.grownBy w' (some p)
set_option maxHeartbeats 800000 in
theorem of_any (B p k : Nat) (g n cap : Nat) (ss : List ByteArray) (w : World) (hk : k ≤ 999999) (h : Cur w B p k) (hs : SR w w.heap.size (some ⟨g, 0, none⟩) n (ss.map Value.string)) (hgp : g ≠ p) (hn : 1 ≤ n) (hn2 : n ≤ 65536) :
    Calls Tryd.prog 27 #[.pointer (some ⟨p, 0, none⟩), .slice (some ⟨g, 0, none⟩) n cap] w (ofPost B p k ss w) := by
  go_enter Tryd.func27, Tryd.ntmps27
  go_wp2_with fail
  refine (pick_any B p k n _ hk h (by omega) (by omega)).mono ?_
  rintro e w1 ⟨x, rfl, hx0, hx1, hc1, hg1⟩
  obtain ⟨j, rfl⟩ := Int.eq_ofNat_of_zero_le hx0
  have hj : j < n := by omega
  obtain ⟨b, off, s, hbo, hbl, hsk, hcell⟩ := hs.str hj
  injection hbo with hbo
  injection hbo with e1 e2
  subst e1
  subst e2
  have hcell1 : w1.cell? ⟨g, j, none⟩ = some (.string s) := by
    rw [World.cell?_of_block (w := w) (hg1.block g hbl (fun e => hgp (by injection e)))]
    rw [Nat.zero_add] at hcell
    exact hcell
  have HS := Lib.hid (List.mem_of_getElem? hsk)
  clear hsk hcell hs
  go_wp2_with fail
  go_ret
  exact ⟨s, HS.out, rfl, hc1, hg1⟩

theorem sr_new (w : World) (ss : List ByteArray) (t : TypeId) : SR (w.alloc (.cells (ss.map Value.string).toArray t)) (w.heap.size + 1) (some ⟨w.heap.size, 0, none⟩) ss.length (ss.map Value.string) :=
  ⟨by simp, fun _ => ⟨w.heap.size, 0, rfl, by omega, fun k u hu => by
    have h := cell_of_row (w.alloc (.cells (ss.map Value.string).toArray t)) w.heap.size k (ss.map Value.string).toArray t (0, 0) (heap_alloc_new w _)
    rw [Nat.zero_add, h, ← hu]
    simp⟩⟩
theorem Cur.grown {w w' : World} {B p k : Nat} {row : Option Nat} (h : Cur w B p k) (hg : w.grownBy w' row) (hr : ∀ g, row = some g → B ≤ g ∧ g ≠ p) : Cur w' B p k := by
  obtain ⟨A, n, c, zs, a, sd, h1, h2, h3, h4⟩ := h
  have hp : p < w.heap.size := (Array.getElem?_eq_some_iff.1 h1).1
  refine ⟨A, n, c, zs, a, sd, (hg.block p hp (fun e => (hr p e.symm).2 rfl)).trans h1, h2, h3.move (fun q hq => World.cell?_of_block (hg.block q.block (by omega) (fun e => by have := (hr _ e.symm).1; omega))), h4⟩
theorem Cur.alloc {w : World} {B p k : Nat} (h : Cur w B p k) (o : Obj) : Cur (w.alloc o) B p k := h.grown (World.grownBy_alloc w o none) (fun _ e => by cases e)
theorem Cur.lt {w : World} {B p k : Nat} (h : Cur w B p k) : p < w.heap.size := by
  obtain ⟨A, n, c, zs, a, sd, h1, _⟩ := h
  exact (Array.getElem?_eq_some_iff.1 h1).1
/-- a new cursor -/
theorem Cur.new {w : World} {A : Option Addr} {n : Nat} (c : Nat) {zs : List Int} (h : SR w w.heap.size A n (zs.map (Value.int .u8))) (hz : ∀ z ∈ zs, 0 ≤ z ∧ z ≤ 255) (hn : n ≤ 65536) :
    Cur (w.alloc (.cells #[.slice A n c, .int .i64 0, .int .u64 0] 37)) w.heap.size w.heap.size 0 :=
  ⟨A, n, c, zs, 0, 0, heap_alloc_new w _, Nat.le_refl _, h.move (fun q hq => World.cell?_alloc_lt w _ q hq), hz, hn, by omega, by omega, by omega, by omega⟩

end Go.Proofs.YtlddkechmkjdeaaDoor.curs

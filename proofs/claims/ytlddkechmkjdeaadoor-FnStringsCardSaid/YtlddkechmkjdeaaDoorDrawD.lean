/- The drawn arguments of FormatInt, ParseInt and AppendChecksum: whatever the code, each draw gives a small number or a string of at most 4000 bytes. -/
import Derived.Test.YtlddkechmkjdeaaDoorAny
import Derived.Test.YtlddkechmkjdeaaDoorNum
namespace Go.Proofs.YtlddkechmkjdeaaDoor.drawd
open kit hs split curs draws num
open Go.RowKit

theorem u8_info : (Tryd.prog.info? 5).map (fun i => (i.zero, i.size, i.bytes)) = some (some (.int .u8 0), 1, 1) := by kernel_rfl
theorem conv_zero (w : World) (m : Nat) :
    (convert 22 9 (.slice (some ⟨w.heap.size, 0, none⟩) m m)).run Tryd.prog (w.alloc (.cells (madeCells #[.int .u8 0] m) 5)) = .ok (.string (strOfNums (List.replicate m 0))) (w.alloc (.cells (madeCells #[.int .u8 0] m) 5)) := by
  rw [run_convert_bytes_arg (w.alloc (.cells (madeCells #[.int .u8 0] m) 5)) 22 5 Tryd.underlying22 Tryd.underlying5 w.heap.size 0 m m (List.replicate m 0) (by simp) (fun i hi => by
    have h := (World.rowIs_made w (.int .u8 0) m 5).cell hi
    rw [Nat.zero_add, h]
    simp [List.getD, hi]) 9 Tryd.underlying9]

theorem sr_int {w : World} {B g n : Nat} {zs : List Int} {k : Nat} (h : SR w B (some ⟨g, 0, none⟩) n (zs.map (Value.int .i64))) (hk : k < n) : ∃ z, zs[k]? = some z ∧ g < B ∧ w.cell? ⟨g, k, none⟩ = some (.int .i64 z) := by
  obtain ⟨b, off, u, e, hb, hu, hc⟩ := h.get hk
  injection e with e
  injection e with e1 e2
  subst e1
  subst e2
  rw [List.getElem?_map] at hu
  obtain ⟨z, hz, rfl⟩ := Option.map_eq_some_iff.1 hu
  rw [Nat.zero_add] at hc
  exact ⟨z, hz, hb, hc⟩

def amongPost (B p k : Nat) (zs : List Int) (w : World) (e : Ending) (w' : World) : Prop :=
  ∃ z ∈ zs, e = .returned (.int .i64 z) ∧ Cur w' B p (k + 2) ∧ w.grownBy w' (some p)
set_option maxHeartbeats 800000 in
theorem among_any (B p k : Nat) (g n cap : Nat) (zs : List Int) (w : World) (hk : k ≤ 999999) (h : Cur w B p k) (hs : SR w w.heap.size (some ⟨g, 0, none⟩) n (zs.map (Value.int .i64))) (hgp : g ≠ p) (hn : 1 ≤ n) (hn2 : n ≤ 65536) :
    Calls Tryd.prog 21 #[.pointer (some ⟨p, 0, none⟩), .slice (some ⟨g, 0, none⟩) n cap] w (amongPost B p k zs w) := by
  go_enter Tryd.func21, Tryd.ntmps21
  go_wp2_with fail
  refine (pick_any B p k n _ hk h (by omega) (by omega)).mono ?_
  rintro e w1 ⟨x, rfl, hx0, hx1, hc1, hg1⟩
  obtain ⟨j, rfl⟩ := Int.eq_ofNat_of_zero_le hx0
  have hj : j < n := by omega
  obtain ⟨s, hsk, hbl, hcell⟩ := sr_int hs hj
  have hcell1 : w1.cell? ⟨g, j, none⟩ = some (.int .i64 s) := by
    rw [World.cell?_of_block (w := w) (hg1.block g hbl (fun e => hgp (by injection e)))]
    exact hcell
  have HS := Lib.hid (List.mem_of_getElem? hsk)
  clear hsk hcell hs
  go_wp2_with fail
  go_ret
  exact ⟨s, HS.out, rfl, hc1, hg1⟩

theorem sri_new (w : World) (zs : List Int) (t : TypeId) : SR (w.alloc (.cells (zs.map (Value.int .i64)).toArray t)) (w.heap.size + 1) (some ⟨w.heap.size, 0, none⟩) zs.length (zs.map (Value.int .i64)) :=
  ⟨by simp, fun _ => ⟨w.heap.size, 0, rfl, by omega, fun k u hu => by
    have h := cell_of_row (w.alloc (.cells (zs.map (Value.int .i64)).toArray t)) w.heap.size k (zs.map (Value.int .i64)).toArray t (0, 0) (heap_alloc_new w _)
    rw [Nat.zero_add, h, ← hu]
    simp⟩⟩

def numPost (w : World) (e : Ending) (w' : World) : Prop := ∃ z : Int, e = .returned (.int .i64 z) ∧ -1000000 ≤ z ∧ z ≤ 1000000 ∧ Below w.heap.size w w'
def strPost (m : Nat) (w : World) (e : Ending) (w' : World) : Prop := ∃ s : ByteArray, e = .returned (.string s) ∧ s.size ≤ m ∧ Below w.heap.size w w'

set_option maxHeartbeats 1600000 in
theorem drawFmt_any (A : Option Addr) (n c : Nat) (zs : List Int) (w : World) (h : SR w w.heap.size A n (zs.map (Value.int .u8))) (hz : ∀ z ∈ zs, 0 ≤ z ∧ z ≤ 255) (hn : n ≤ 65536) :
    Calls Tryd.prog 9 #[.slice A n c] w (numPost w) := by
  have hcur := Cur.new c h hz hn
  have HZ := Lib.hid hz
  clear hz
  have hb0 : Below w.heap.size w (w.alloc (.cells #[.slice A n c, .int .i64 0, .int .u64 0] 37)) := (Below.refl _ _).alloc (Nat.le_refl _) _
  go_enter Tryd.func9, Tryd.ntmps9
  go_wp2_with fail
  refine (pick_any _ _ _ 1000 _ (by omega) hcur (by omega) (by omega)).mono ?_
  rintro e w1 ⟨x, rfl, hx0, hx1, hc1, hg1⟩
  have hb1 := below_cur hb0 hg1 (Nat.le_refl _)
  clear hg1 hb0
  have hlt := hc1.lt
  have CA := among_any _ _ _ w1.heap.size 9 9 [0, 1, -1, 10, 999999, -999999, 1000000, -1000000, x - 500] _ (by omega) (hc1.alloc _) ((sri_new w1 [0, 1, -1, 10, 999999, -999999, 1000000, -1000000, x - 500] 3).wide (by simp)) (by omega) (by omega) (by omega)
  go_wp2_with fail
  refine CA.mono ?_
  rintro e w2 ⟨z, hz, rfl, hc2, hg2⟩
  have hb2 := below_cur (hb1.alloc hb1.size _) hg2 (Nat.le_refl _)
  have hzb : -1000000 ≤ z ∧ z ≤ 1000000 := by
    simp only [List.mem_cons, List.not_mem_nil, or_false] at hz
    omega
  clear hz
  go_wp2_with fail
  go_ret
  exact ⟨z, rfl, hzb.1, hzb.2, hb2⟩

def texts : List ByteArray := [⟨#[]⟩, ⟨#[45]⟩, ⟨#[45, 48]⟩, ⟨#[48, 48]⟩, ⟨#[48, 49]⟩, ⟨#[45, 45, 49]⟩, ⟨#[49, 120]⟩, ⟨#[57, 57, 57, 57, 57, 57]⟩, ⟨#[49, 48, 48, 48, 48, 48, 48]⟩, ⟨#[45, 57, 57, 57, 57, 57, 57]⟩, ⟨#[49, 56, 52, 52, 54, 55, 52, 52, 48, 55, 51, 55, 48, 57, 53, 53, 49, 54, 49, 55]⟩]
theorem itoa_small {n : Int} (h0 : -1000 ≤ n) (h1 : n ≤ 1000) : (Lib.itoa n).length ≤ 4000 := by
  unfold Lib.itoa
  have := dec_len 1000 n.natAbs (by omega)
  have := dec_len 1000 n.toNat (by omega)
  split <;> simp <;> omega

set_option maxHeartbeats 1600000 in
theorem drawPrs_any (A : Option Addr) (n c : Nat) (zs : List Int) (w : World) (h : SR w w.heap.size A n (zs.map (Value.int .u8))) (hz : ∀ z ∈ zs, 0 ≤ z ∧ z ≤ 255) (hn : n ≤ 65536) :
    Calls Tryd.prog 12 #[.slice A n c] w (strPost 4000 w) := by
  have hcur := Cur.new c h hz hn
  have HZ := Lib.hid hz
  clear hz
  have hb0 : Below w.heap.size w (w.alloc (.cells #[.slice A n c, .int .i64 0, .int .u64 0] 37)) := (Below.refl _ _).alloc (Nat.le_refl _) _
  go_enter Tryd.func12, Tryd.ntmps12
  go_wp2_with fail
  refine (one_any _ _ _ 2 _ (by omega) hcur (by omega) (by omega)).mono ?_
  rintro e w1 ⟨b, rfl, hc1, hg1⟩
  have hb1 := below_cur hb0 hg1 (Nat.le_refl _)
  clear hg1 hb0
  cases b with
  | true =>
    go_wp2_with fail
    refine (from_any _ _ _ texts 20 _ (by omega) hc1 (by decide) (by decide) (by decide)).mono ?_
    rintro e w2 ⟨s2, rfl, hs2, hc2, hg2⟩
    have hb2 := below_cur hb1 hg2 (Nat.le_refl _)
    go_wp2_with fail
    go_ret
    exact ⟨s2, rfl, by omega, hb2⟩
  | false =>
    go_wp2_with fail
    refine (pick_any _ _ _ 2000 _ (by omega) hc1 (by omega) (by omega)).mono ?_
    rintro e w2 ⟨x, rfl, hx0, hx1, hc2, hg2⟩
    have hb2 := below_cur hb1 hg2 (Nat.le_refl _)
    have hl := itoa_small (n := x - 1000) (by omega) (by omega)
    go_wp2_with fail
    refine (num_any _ _ (by omega) (by omega)).mono ?_
    rintro e w3 ⟨rfl, hd⟩
    have hb3 := hb2.trans (hd.below _)
    go_wp2_with fail
    go_ret
    exact ⟨_, rfl, by show (Lib.itoa (x - 1000)).toArray.size ≤ 4000; simpa using hl, hb3⟩

set_option maxHeartbeats 1600000 in
theorem drawApd_any (A : Option Addr) (n c : Nat) (zs : List Int) (w : World) (h : SR w w.heap.size A n (zs.map (Value.int .u8))) (hz : ∀ z ∈ zs, 0 ≤ z ∧ z ≤ 255) (hn : n ≤ 65536) :
    Calls Tryd.prog 15 #[.slice A n c] w (strPost 4000 w) := by
  have hcur := Cur.new c h hz hn
  have HZ := Lib.hid hz
  clear hz
  have hb0 : Below w.heap.size w (w.alloc (.cells #[.slice A n c, .int .i64 0, .int .u64 0] 37)) := (Below.refl _ _).alloc (Nat.le_refl _) _
  go_enter Tryd.func15, Tryd.ntmps15
  go_wp2_with fail
  refine (one_any _ _ _ 20 _ (by omega) hcur (by omega) (by omega)).mono ?_
  rintro e w1 ⟨b, rfl, hc1, hg1⟩
  have hb1 := below_cur hb0 hg1 (Nat.le_refl _)
  clear hg1 hb0
  cases b with
  | false =>
    go_wp2_with fail
    refine (any_any _ _ _ _ (by omega) hc1).mono ?_
    rintro e w2 ⟨s2, rfl, hs2, hc2, hg2⟩
    have hb2 := below_cur hb1 hg2 (Nat.le_refl _)
    go_wp2_with fail
    go_ret
    exact ⟨s2, rfl, by omega, hb2⟩
  | true =>
    go_wp2_with fail
    refine (pick_any _ _ _ 10 _ (by omega) hc1 (by omega) (by omega)).mono ?_
    rintro e w2 ⟨z, rfl, hz0, hz20, hc2, hg2⟩
    have hb2 := below_cur hb1 hg2 (Nat.le_refl _)
    obtain ⟨m, rfl⟩ := Int.eq_ofNat_of_zero_le hz0
    have em : (3990 : Int) + (m : Int) = ((3990 + m : Nat) : Int) := by omega
    have hmk : ∀ W, (Instr.makeSlice 22 (.int .i64 (3990 + (m : Int))) (.int .i64 (3990 + (m : Int)))).run Tryd.prog W = .ok (.slice (some ⟨W.heap.size, 0, none⟩) (3990 + m) (3990 + m)) (W.alloc (.cells (madeCells #[.int .u8 0] (3990 + m)) 5)) := fun W => by
      rw [em]; exact run_make_row' (P := Tryd.prog) 22 5 (.int .u8 0) 1 Tryd.underlying22 u8_info rfl .i64 .i64 (3990 + m) (by omega) (by omega) W
    have hcv := conv_zero w2 (3990 + m)
    have hlz : (strOfNums (List.replicate (3990 + m) 0)).size = 3990 + m := by rw [strOfNums_size]; simp
    have HLZ := Lib.hid hlz
    clear em hlz
    obtain ⟨big, hbig⟩ : ∃ big, strOfNums (List.replicate (3990 + m) 0) = big := ⟨_, rfl⟩
    rw [hbig] at hcv HLZ
    clear hbig
    go_wp2_with fail
    go_ret
    exact ⟨big, rfl, by have := HLZ.out; omega, hb2.alloc hb2.size _⟩
end Go.Proofs.YtlddkechmkjdeaaDoor.drawd

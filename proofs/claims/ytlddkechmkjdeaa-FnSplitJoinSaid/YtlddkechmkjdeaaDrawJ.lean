/- DrawJoinStrings: whatever the code, a row of at most four strings, and a separator. -/
import Derived.Test.YtlddkechmkjdeaaDraw
namespace Go.Proofs.Ytlddkechmkjdeaa.drawj
open kit hs split curs draws
open Go.RowKit

theorem u8_info : (Try.prog.info? 5).map (fun i => (i.zero, i.size, i.bytes)) = some (some (.int .u8 0), 1, 1) := by kernel_rfl
theorem own_ne {w : World} {B B' p k : Nat} {v : Value} {ss : List ByteArray} (h : OwnS w B v ss) (hc : Cur w B' p k) : v.ownBlock ≠ some p := by
  obtain ⟨A, n, c, zs, a, sd, h1, _⟩ := hc
  rcases h.2 with ⟨rfl, _⟩ | ⟨g, cap, cur, rfl, _, hh, _⟩
  · simp [Value.ownBlock]
  · intro e
    have e2 : g = p := by simpa [Value.ownBlock] using e
    subst e2
    rw [hh] at h1
    injection h1 with h1
    injection h1 with _ h1
    exact absurd h1 (by decide)
theorem own_cur {w w' : World} {B B' p k : Nat} {v : Value} {ss : List ByteArray} (h : OwnS w B v ss) (hc : Cur w B' p k) (hg : w.grownBy w' (some p)) : OwnS w' B v ss :=
  World.ownsRow.kept h hg (.inr (own_ne h hc))
theorem conv_zero (w : World) (m : Nat) :
    (convert 22 9 (.slice (some ⟨w.heap.size, 0, none⟩) m m)).run Try.prog (w.alloc (.cells (madeCells #[.int .u8 0] m) 5)) = .ok (.string (strOfNums (List.replicate m 0))) (w.alloc (.cells (madeCells #[.int .u8 0] m) 5)) := by
  rw [run_convert_bytes_arg (w.alloc (.cells (madeCells #[.int .u8 0] m) 5)) 22 5 Try.underlying22 Try.underlying5 w.heap.size 0 m m (List.replicate m 0) (by simp) (fun i hi => by
    have h := (World.rowIs_made w (.int .u8 0) m 5).cell hi
    rw [Nat.zero_add, h]
    simp [List.getD, hi]) 9 Try.underlying9]

/-- a row of the call's own beside the cursor -/
def Held (N : Nat) (w wr : World) (v : Value) (ss : List ByteArray) (k : Nat) : Prop := OwnS wr N v ss ∧ v ≠ .slice none 0 0 ∧ Cur wr N N k ∧ Below N w wr
theorem held_step {w a b : World} {v : Value} {ss : List ByteArray} {k k' : Nat} (h : Held w.heap.size w a v ss k) (hc : Cur b w.heap.size w.heap.size k') (hg : a.grownBy b (some w.heap.size)) : Held w.heap.size w b v ss k' :=
  ⟨own_cur h.1 h.2.2.1 hg, h.2.1, hc, below_cur h.2.2.2 hg (Nat.le_refl _)⟩
theorem held_alloc {w a : World} {v : Value} {ss : List ByteArray} {k : Nat} (h : Held w.heap.size w a v ss k) (o : Obj) : Held w.heap.size w (a.alloc o) v ss k :=
  ⟨World.ownsRow.alloc h.1 o, h.2.1, h.2.2.1.alloc o, h.2.2.2.alloc h.2.2.2.size o⟩
theorem held_append {w a b : World} {v v1 : Value} {s : ByteArray} {ss : List ByteArray} {k : Nat} {o : Obj} (h : Held w.heap.size w a v ss k)
    (ho : b.ownsRow w.heap.size 9 1 v1 (ss.length + 1) (ss.map Value.string ++ [.string s])) (hg : (a.alloc o).grownBy b v.ownBlock) (hn : v1 = .slice none 0 0 ↔ v = .slice none 0 0 ∧ 1 = 0) : Held w.heap.size w b v1 (ss ++ [s]) k := by
  have hl : ∀ g, v.ownBlock = some g → w.heap.size ≤ g := fun g e => (World.ownsRow.lt h.1 g e).1
  refine ⟨?_, fun e => absurd (hn.1 e).2 (by decide), (h.2.2.1.alloc o).grown hg (fun g e => ⟨hl g e, fun e2 => own_ne h.1 h.2.2.1 (by rw [e, e2])⟩), ?_⟩
  · unfold OwnS
    rw [List.length_append, List.map_append]
    exact ho
  · exact (h.2.2.2.alloc h.2.2.2.size o).grown hg (by simp; have := h.2.2.2.size; omega) (fun g e => hl g e)

def joinDraw (w : World) (e : Ending) (w' : World) : Prop :=
  ∃ (v : Value) (ss : List ByteArray) (sep : ByteArray), e = .returned (.tuple #[v, .string sep]) ∧ OwnS w' w.heap.size v ss ∧ v ≠ .slice none 0 0 ∧ ss.length ≤ 4 ∧ (∀ s ∈ ss, s.size ≤ 4010) ∧ sep.size ≤ 10 ∧ Below w.heap.size w w'

def seps2 : List ByteArray := [⟨#[44]⟩, ⟨#[59]⟩, ⟨#[59]⟩, ⟨#[]⟩, ⟨#[97, 98]⟩]

set_option maxHeartbeats 3200000 in
theorem drawJoin_any (A : Option Addr) (n c : Nat) (zs : List Int) (w : World) (h : SR w w.heap.size A n (zs.map (Value.int .u8))) (hz : ∀ z ∈ zs, 0 ≤ z ∧ z ≤ 255) (hn : n ≤ 65536) :
    Calls Try.prog 11 #[.slice A n c] w (joinDraw w) := by
  have hcur := Cur.new c h hz hn
  have HZ := Lib.hid hz
  clear hz
  obtain ⟨i0, hi, hz0, hz1, hz2⟩ := info_parts str_info
  have HI := Lib.hid (And.intro hi (And.intro hz0 (And.intro hz1 hz2)))
  clear hi hz0 hz1 hz2
  have hb0 : Below w.heap.size w (w.alloc (.cells #[.slice A n c, .int .i64 0, .int .u64 0] 44)) := (Below.refl _ _).alloc (Nat.le_refl _) _
  go_enter Try.func11, Try.ntmps11
  go_wp2_with fail
  refine (pick_any _ _ _ 4 _ (by omega) (hcur.alloc _) (by omega) (by omega)).mono ?_
  rintro e w1 ⟨x, rfl, hx0, hx4, hc1, hg1⟩
  have hown0 : OwnS ((w.alloc (.cells #[.slice A n c, .int .i64 0, .int .u64 0] 44)).alloc (.cells #[] 9)) w.heap.size (.slice (some ⟨w.heap.size + 1, 0, none⟩) 0 0) [] := by
    have := World.ownsRow_made (base := w.heap.size) (e := 9) (size := 1) (w.alloc (.cells #[.slice A n c, .int .i64 0, .int .u64 0] 44)) #[] 0 (by simp) (by unfold maxLen; omega) (by simp)
    rw [World.size_alloc] at this
    exact this
  have hown1 := own_cur hown0 (hcur.alloc _) hg1
  have hb1 := below_cur (hb0.alloc (by simp) (.cells #[] 9)) hg1 (Nat.le_refl _)
  clear hown0 hg1
  go_wp2_with fail
  go_loopw [5, 7] (fun v i wr => ∃ (j : Nat) (ss : List ByteArray), (j : Int) ≤ x ∧ i = .int .i64 j ∧ Held w.heap.size w wr v ss (2 + 2 * j) ∧ ss.length ≤ j ∧ (∀ s ∈ ss, s.size ≤ 10)) (fun _ i _ => (x - intOf i).toNat)
  case atStart => exact ⟨0, [], by omega, rfl, ⟨hown1, by simp, hc1, hb1⟩, by simp, by simp⟩
  case round =>
    obtain ⟨j, ss, hj, rfl, hheld, hsl, hsz⟩ := hrel
    have HSZ := Lib.hid hsz
    clear hsz hown1 hc1 hb1
    by_cases hlt : (j : Int) < x
    · obtain ⟨hown, hnn, hc, hb⟩ := hheld
      go_wp2_with fail
      refine (any_any _ _ _ _ (by omega) hc).mono ?_
      rintro e w2 ⟨s, rfl, hs, hc2, hg2⟩
      have hheld2 := held_step ⟨hown, hnn, hc, hb⟩ hc2 hg2
      have hown2 := hheld2.1
      have hbs := hheld2.2.2.2.size
      have H2 := Lib.hid hheld2
      clear hown hnn hc hb hc2 hg2 hheld2
      unfold OwnS at hown2
      go_wp2_with (at_builtin; refine wpList_append_own _ rfl (.tmp 19) (.tmp 22) 26 rfl w.heap.size 9 i0 (.string ⟨#[]⟩) 1 16 Try.underlying26 HI.out.1 HI.out.2.1 HI.out.2.2.1 HI.out.2.2.2 rfl (by decide) _ _ _ rfl (hown2.alloc _) ⟨w2.heap.size, 0, none⟩ 1 1 [.string s] rfl rfl (cell_one_new _ _ _) (fun x hx => by simp at hx; subst hx; rfl) (by unfold maxLen; omega) (by omega) (by simp; omega) ?_; intro v1 w3 hown3 hgrow3 hnil3)
      have H3 := Lib.hid (held_append H2.out hown3 hgrow3 hnil3)
      clear hown3 hgrow3 hnil3 hown2
      go_wp2_with fail
      go_roundw
      case rel => exact ⟨j + 1, ss ++ [s], by omega, by go_num, by have := H3.out; rw [show 2 + 2 * (j + 1) = 2 + 2 * j + 2 by omega]; exact this, by simp; omega, fun y hy => by
        rcases List.mem_append.1 hy with h1 | h1
        · exact HSZ.out y h1
        · obtain rfl : y = s := by simpa using h1
          exact hs⟩
      case measure => simp [intOf]; omega
    · obtain ⟨hown, hnn, hc, hb⟩ := hheld
      go_wp2_with fail
      refine (one_any _ _ _ 20 _ (by omega) hc (by omega) (by omega)).mono ?_
      rintro e w2 ⟨b, rfl, hc2, hg2⟩
      have hheld2 := held_step ⟨hown, hnn, hc, hb⟩ hc2 hg2
      clear hown hnn hc hb hc2 hg2
      cases b with
      | false =>
        obtain ⟨hown, hnn, hc, hb⟩ := hheld2
        go_wp2_with fail
        refine (from_any _ _ _ seps2 10 _ (by omega) hc (by decide) (by decide) (by decide)).mono ?_
        rintro e w3 ⟨s2, rfl, hs2, hc3, hg3⟩
        have hheld3 := held_step ⟨hown, hnn, hc, hb⟩ hc3 hg3
        clear hown hnn hc hb hc3 hg3
        go_wp2_with fail
        go_ret2
        exact ⟨_, ss, s2, rfl, hheld3.1, hheld3.2.1, by omega, fun y hy => by have := HSZ.out y hy; omega, hs2, hheld3.2.2.2⟩
      | true =>
        obtain ⟨hown, hnn, hc, hb⟩ := hheld2
        go_wp2_with fail
        refine (pick_any _ _ _ 20 _ (by omega) hc (by omega) (by omega)).mono ?_
        rintro e w3 ⟨z, rfl, hz0, hz20, hc3, hg3⟩
        obtain ⟨m, rfl⟩ := Int.eq_ofNat_of_zero_le hz0
        have hheld3 := held_step ⟨hown, hnn, hc, hb⟩ hc3 hg3
        have hown3 := hheld3.1
        have hbs := hheld3.2.2.2.size
        have H3 := Lib.hid hheld3
        clear hown hnn hc hb hc3 hg3 hheld3
        unfold OwnS at hown3
        have em : (3990 : Int) + (m : Int) = ((3990 + m : Nat) : Int) := by omega
        have hmk : ∀ W, (Instr.makeSlice 22 (.int .i64 (3990 + (m : Int))) (.int .i64 (3990 + (m : Int)))).run Try.prog W = .ok (.slice (some ⟨W.heap.size, 0, none⟩) (3990 + m) (3990 + m)) (W.alloc (.cells (madeCells #[.int .u8 0] (3990 + m)) 5)) := fun W => by
          rw [em]; exact run_make_row' (P := Try.prog) 22 5 (.int .u8 0) 1 Try.underlying22 u8_info rfl .i64 .i64 (3990 + m) (by omega) (by omega) W
        have hcv := conv_zero w3 (3990 + m)
        have hlz : (strOfNums (List.replicate (3990 + m) 0)).size = 3990 + m := by rw [strOfNums_size]; simp
        have HLZ := Lib.hid hlz
        clear em hlz
        obtain ⟨big, hbig⟩ : ∃ big, strOfNums (List.replicate (3990 + m) 0) = big := ⟨_, rfl⟩
        rw [hbig] at hcv HLZ
        clear hbig
        go_wp2_with (at_builtin; refine wpList_append_own _ rfl (.tmp 26) (.tmp 32) 26 rfl w.heap.size 9 i0 (.string ⟨#[]⟩) 1 16 Try.underlying26 HI.out.1 HI.out.2.1 HI.out.2.2.1 HI.out.2.2.2 rfl (by decide) _ _ _ rfl ((hown3.alloc _).alloc _) ⟨w3.heap.size + 1, 0, none⟩ 1 1 [.string big] rfl rfl (by have := cell_one_new (w3.alloc (.cells (madeCells #[.int .u8 0] (3990 + m)) 5)) (.string big) 9; rw [World.size_alloc] at this; exact this) (fun x hx => by simp at hx; subst hx; rfl) (by unfold maxLen; omega) (by omega) (by simp; omega) ?_; intro v1 w4 hown4 hgrow4 hnil4)
        have H4 := Lib.hid (held_append (held_alloc H3.out _) hown4 hgrow4 hnil4)
        clear hown4 hgrow4 hnil4 hown3 hmk hcv
        have hc4 := H4.out.2.2.1
        go_wp2_with fail
        refine (from_any _ _ _ seps2 10 _ (by omega) hc4 (by decide) (by decide) (by decide)).mono ?_
        rintro e w5 ⟨s2, rfl, hs2, hc5, hg5⟩
        have hheld5 := held_step H4.out hc5 hg5
        clear hc4 hc5 hg5
        go_wp2_with fail
        go_ret2
        exact ⟨_, ss ++ [big], s2, rfl, hheld5.1, hheld5.2.1, by simp; omega, fun y hy => by
          rcases List.mem_append.1 hy with h1 | h1
          · have := HSZ.out y h1; omega
          · obtain rfl : y = big := by simpa using h1
            have := HLZ.out
            omega, hs2, hheld5.2.2.2⟩
end Go.Proofs.Ytlddkechmkjdeaa.drawj

/- slices.Sorted, slices.Compact and impl.ascendingNames at strings. -/
import Derived.Test.YtlpgldejmdiceabGreatVs
import Derived.Test.YtlpgldejmdiceabGreatSrt
import Derived.Test.YtlpgldejmdiceabGreatQd
namespace Go.Proofs.YtlpgldejmdiceabGreat.asc
open kit bg sg opn strs only hb sig inn ht marks eqs hc hi hw hn rs br bm bw cf lawb lw cl wb su vs
open Go.RowKit Go.Sort Go.Lib
set_option linter.unusedVariables false
theorem val_any (A : Option Addr) (n c : Nat) (w : World) :
    Calls Tryz.prog 107 #[.slice A n c] w fun e w' => e = .returned (.func (.func 122) #[] #[.pointer (some ⟨w.heap.size, 0, none⟩)]) ∧ w' = w.alloc (.cells #[.slice A n c] 28) := by
  go_enter Tryz.func107, Tryz.ntmps107
  go_wp2_with fail
  go_ret
  exact ⟨rfl, rfl⟩
/-- the lists of bytes in ascending order -/
def srtL (ss : List ByteArray) : List (List UInt8) := (lists ss).mergeSort fun x y => decide (x ≤ y)
theorem lists_len (ss : List ByteArray) : (lists ss).length = ss.length := by unfold lists; rw [List.length_map]
theorem srtL_len (ss : List ByteArray) : (srtL ss).length = (lists ss).length := by unfold srtL; rw [List.length_mergeSort]
theorem srtS_any (A : Option Addr) (n c : Nat) (ss : List ByteArray) (Bs : Nat) (w : World) (hBl : Bs < w.heap.size) (hBs : w.cell? ⟨Bs, 0, none⟩ = some (.slice A n c)) (h : SR w w.heap.size A n (ss.map Value.string)) (hn : n ≤ 1048576) :
    Calls Tryz.prog 106 #[.func (.func 122) #[] #[.pointer (some ⟨Bs, 0, none⟩)]] w fun e w' => ∃ v, e = .returned v ∧ w'.ownsRow w.heap.size 9 1 v (srtL ss).length ((srtL ss).map encStr) ∧ Below w.heap.size w w' := by
  obtain rfl : n = (lists ss).length := by rw [lists_len]; exact h.strlen.symm
  have HC := Lib.hid (col_any A _ c ss Bs w hBl hBs h hn)
  clear hBs h
  go_enter Tryz.func106, Tryz.ntmps106
  go_wp2_with fail
  refine HC.out.mono ?_
  rintro e w1 ⟨v, rfl, ho, hb⟩
  rw [← lists_enc] at ho
  clear HC
  rcases ho.2 with ⟨rfl, hz⟩ | ⟨g, cap, cur, rfl, hbase, hgb, r1, r2, r3, r4⟩
  · have hl : srtL ss = [] := List.eq_nil_of_length_eq_zero (by rw [srtL_len]; exact hz)
    have HL := Lib.hid hl
    have HO := Lib.hid ho
    clear ho hl
    go_wp2_with fail
    refine (Tryz.slices_Sort_string_none none 0 w1).mono ?_
    rintro e w2 ⟨rfl, rfl⟩
    go_wp2_with fail
    go_ret
    refine ⟨_, rfl, ?_, hb⟩
    rw [HL.out]
    exact ⟨rfl, .inl ⟨rfl, rfl⟩⟩
  · have hH : Holds encStr w1 g 0 (lists ss).toArray := holds_of_block hgb (by simpa using r4)
    have hgl : g < w1.heap.size := (Array.getElem?_eq_some_iff.1 hgb).1
    have HS := Lib.hid (Tryz.slices_Sort_string g 0 cap (lists ss) w1 hH hgl (by omega))
    have HO := Lib.hid (fun (k : Nat) os => ownsRow_sorted (w := w1) (n := k) (os := os) (ss := lists ss) (ts := srtL ss) (srtL_len ss) hbase hgb r1 r2 r3)
    have HB := Lib.hid (fun (k : Nat) os => hb.grown (grownBy_sorted (w := w1) (g := g) (n := k) (os := os) (srtL ss).toArray) hb.size (fun j hj => by cases hj; exact hbase))
    have HLn := Lib.hid (srtL_len ss)
    clear ho hH hgb r4 r3
    go_wp2_with fail
    refine HS.out.mono ?_
    rintro e w2 ⟨rfl, k, os, rfl⟩
    go_wp2_with fail
    go_ret
    exact ⟨_, rfl, by rw [HLn.out]; exact HO.out k os, HB.out k os⟩
theorem compact_len (ls : List (List UInt8)) : (compact ls).length ≤ ls.length := by
  unfold compact compactUpTo
  rw [List.length_map]
  refine Nat.le_trans (List.length_filter_le ..) ?_
  rw [List.length_range]
  exact Nat.le_refl _
theorem grow_nil (w : World) : Go.Sort.grow w #[] = w := by simp [Go.Sort.grow]
/-- a row of strings behind slices.Compact -/
theorem owns_compact {w : World} {lo g cap q : Nat} {e : TypeId} {cur : Array Value} {ls : List (List UInt8)} (hbase : lo ≤ g) (hb : w.heap[g]? = some (.cells cur e (0, 0))) (h1 : ls.length ≤ cap) (h2 : cap ≤ maxLen) (h3 : cur.size = cap * 1) :
    (putRow encStr (Sort.ahead w q) g 0 (compact ls ++ List.replicate (ls.length - (compact ls).length) []).toArray).ownsRow lo e 1 (.slice (some ⟨g, 0, none⟩) (compact ls).length cap) (compact ls).length ((compact ls).map encStr) := by
  have hc := compact_len ls
  obtain ⟨ts, ht⟩ : ∃ ts, compact ls ++ List.replicate (ls.length - (compact ls).length) [] = ts := ⟨_, rfl⟩
  have hl : ts.length = ls.length := by rw [← ht, List.length_append, List.length_replicate]; omega
  have hh := heap_sorted (w := w) (g := g) (n := q) (os := #[]) (cur := cur) ts.toArray hb
  rw [grow_nil] at hh
  have htk := take_putCells cur ts (by omega)
  rw [ht]
  refine ⟨by simp, .inr ⟨g, cap, _, rfl, hbase, hh, by omega, h2, by simp [putCells, h3], ?_⟩⟩
  rw [Nat.mul_one]
  have e1 : ((putCells encStr 0 ts.toArray cur).toList.take ts.length).take (compact ls).length = (ts.map encStr).take (compact ls).length := by rw [htk]
  rw [List.take_take, Nat.min_eq_left (by omega)] at e1
  rw [e1, ← ht, List.map_append, List.take_left' (List.length_map _)]
theorem compact_srt (ss : List ByteArray) : (compact (srtL ss)).map encStr = (sortU ss).map Value.string := by
  rw [back_enc, ← compact_sorted]
  rfl
set_option maxHeartbeats 800000 in
theorem asc_any (A : Option Addr) (n c : Nat) (ss : List ByteArray) (w : World) (h : SR w w.heap.size A n (ss.map Value.string)) (hn : n ≤ 1048576) :
    Calls Tryz.prog 82 #[.slice A n c] w fun e w' => ∃ A' c', e = .returned (.slice A' (sortU ss).length c') ∧ RowR w' w.heap.size w'.heap.size 9 1 A' (sortU ss).length c' (at_ (sortU ss)) ∧ Below w.heap.size w w' := by
  have hb0 := (Below.refl w.heap.size w).alloc (Nat.le_refl _) (.cells #[.slice A n c] 28)
  have HS := Lib.hid (srtS_any A n c ss w.heap.size (w.alloc (.cells #[.slice A n c] 28)) (by simp) (Boxed.new w 28 (.slice A n c)).cell ((h.below hb0).wide hb0.size) hn)
  have HB0 := Lib.hid hb0
  have HV := Lib.hid (val_any A n c w)
  have HL : Hid (srtL ss = [] → sortU ss = []) := Lib.hid (fun e => by
    have := compact_srt ss
    rw [e] at this
    exact List.map_eq_nil_iff.1 this.symm)
  have HCl := Lib.hid (compact_srt ss)
  have HCn : Hid ((compact (srtL ss)).length = (sortU ss).length) := Lib.hid (by have := congrArg List.length (compact_srt ss); rw [List.length_map, List.length_map] at this; exact this)
  clear hb0 h
  go_enter Tryz.func82, Tryz.ntmps82
  go_wp2_with fail
  refine HV.out.mono ?_
  rintro e w0 ⟨rfl, hw0⟩
  rw [← hw0] at HS HB0
  clear hw0
  go_wp2_with fail
  refine HS.out.mono ?_
  rintro e w1 ⟨v, rfl, ho, hb⟩
  have HB1 := Lib.hid (HB0.out.trans (hb.mono HB0.out.size))
  clear HS hb
  have hsz := HB0.out.size
  rcases ho.2 with ⟨rfl, hz⟩ | ⟨g, cap, cur, rfl, hbase, hgb, r1, r2, r3, r4⟩
  · have hl : srtL ss = [] := List.eq_nil_of_length_eq_zero hz
    have HE := Lib.hid (HL.out hl)
    clear ho hl
    go_wp2_with fail
    refine (Tryz.slices_Compact_string_empty none 0 w1).mono ?_
    rintro e w2 ⟨rfl, rfl⟩
    go_wp2_with fail
    go_ret
    exact ⟨none, 0, by rw [HE.out]; rfl, by rw [HE.out]; exact RowR.nil, HB1.out⟩
  · have hH : Holds encStr w1 g 0 (srtL ss).toArray := holds_of_block hgb (by simpa using r4)
    have HC := Lib.hid (Tryz.slices_Compact_string g 0 cap (srtL ss) w1 hH (by unfold maxLen at r2; omega) r1)
    have HO := Lib.hid (fun (q : Nat) => owns_compact (w := w1) (q := q) (ls := srtL ss) (Nat.le_trans hsz hbase) hgb r1 r2 r3)
    have HB := Lib.hid (fun (q : Nat) (d : Array (List UInt8)) => HB1.out.grown (grownBy_sorted (w := w1) (g := g) (n := q) (os := #[]) d) HB1.out.size (fun j hj => by cases hj; exact Nat.le_trans hsz hbase))
    clear ho hH hgb r4 r3
    go_wp2_with fail
    refine HC.out.mono ?_
    rintro e w2 ⟨rfl, q, hw2⟩
    have ho2 := HO.out q
    have hb2 := HB.out q (compact (srtL ss) ++ List.replicate ((srtL ss).length - (compact (srtL ss)).length) []).toArray
    rw [grow_nil] at hb2
    rw [← hw2] at ho2 hb2
    rw [HCl.out] at ho2
    obtain ⟨A', c', e1, hr⟩ := strs_owned ho2
    injection e1 with e1 e2 e3
    subst e1 e3
    have HR := Lib.hid hr
    have HB2 := Lib.hid hb2
    clear hw2 ho2 hb2 hr e2
    go_wp2_with fail
    go_ret
    exact ⟨_, _, by first | rfl | (rw [HCn.out]; rfl), HR.out, HB2.out⟩
end Go.Proofs.YtlpgldejmdiceabGreat.asc

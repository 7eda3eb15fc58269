/- Rows of Bigraphs: where they lie; the laws' size and comparison of them. -/
import Derived.Test.YtlpgldejmdiceabGreatQd
import Derived.StillTailTactics
namespace Go.Proofs.YtlpgldejmdiceabGreat.bgs
open kit bg opn strs only hb sg sig isig un hc hi ht
open Go.RowKit
set_option linter.unusedVariables false

/-- a row of Bigraphs at a slice -/
def BgsAt (w : World) (B : Nat) (A : Option Addr) (n : Nat) (bs : List Big) : Prop :=
  bs.length = n ∧ (0 < n → ∃ g off, A = some ⟨g, off, none⟩ ∧ g < B ∧ ∀ (k : Nat) b, bs[k]? = some b →
    ∃ v0 v1 v2 v3 v4 v5, w.cell? ⟨g, off + k * 6, none⟩ = some v0 ∧ w.cell? ⟨g, off + k * 6 + 1, none⟩ = some v1 ∧ w.cell? ⟨g, off + k * 6 + 2, none⟩ = some v2 ∧
      w.cell? ⟨g, off + k * 6 + 3, none⟩ = some v3 ∧ w.cell? ⟨g, off + k * 6 + 4, none⟩ = some v4 ∧ w.cell? ⟨g, off + k * 6 + 5, none⟩ = some v5 ∧ BigAt w B (.agg #[v0, v1, v2, v3, v4, v5]) b)
section
variable {w w' : World} {B B' n : Nat} {A : Option Addr} {bs : List Big}
theorem BgsAt.get {k : Nat} (h : BgsAt w B A n bs) (hk : k < n) : ∃ g off b, A = some ⟨g, off, none⟩ ∧ g < B ∧ bs[k]? = some b ∧
    ∃ A1 n1 c1 A2 n2 c2 A4 n4 c4 A5 n5 c5, w.cell? ⟨g, off + k * 6, none⟩ = some (.int .i64 b.roots) ∧ w.cell? ⟨g, off + k * 6 + 1, none⟩ = some (.slice A1 n1 c1) ∧ w.cell? ⟨g, off + k * 6 + 2, none⟩ = some (.slice A2 n2 c2) ∧
      w.cell? ⟨g, off + k * 6 + 3, none⟩ = some (.int .i64 b.edges) ∧ w.cell? ⟨g, off + k * 6 + 4, none⟩ = some (.slice A4 n4 c4) ∧ w.cell? ⟨g, off + k * 6 + 5, none⟩ = some (.slice A5 n5 c5) ∧
      BigAt w B (.agg #[.int .i64 b.roots, .slice A1 n1 c1, .slice A2 n2 c2, .int .i64 b.edges, .slice A4 n4 c4, .slice A5 n5 c5]) b := by
  obtain ⟨g, off, e, hg, hc⟩ := h.2 (by omega)
  have hx : bs[k]? = some (bs[k]'(by have := h.1; omega)) := List.getElem?_eq_getElem _
  obtain ⟨v0, v1, v2, v3, v4, v5, e0, e1, e2, e3, e4, e5, hb⟩ := hc k _ hx
  have hb' := hb
  obtain ⟨A1, n1, c1, A2, n2, c2, A4, n4, c4, A5, n5, c5, ev, -⟩ := hb'
  simp only [Value.agg.injEq, Array.mk.injEq, List.cons.injEq, and_true] at ev
  obtain ⟨rfl, rfl, rfl, rfl, rfl, rfl⟩ := ev
  exact ⟨g, off, _, e, hg, hx, _, _, _, _, _, _, _, _, _, _, _, _, e0, e1, e2, e3, e4, e5, hb⟩
theorem BgsAt.below (h : BgsAt w B A n bs) (hb : Below B w w') : BgsAt w' B A n bs :=
  ⟨h.1, fun hn => by
    obtain ⟨g, off, e, hg, hc⟩ := h.2 hn
    refine ⟨g, off, e, hg, fun k b hk => ?_⟩
    obtain ⟨v0, v1, v2, v3, v4, v5, e0, e1, e2, e3, e4, e5, hv⟩ := hc k b hk
    exact ⟨v0, v1, v2, v3, v4, v5, (hb.cell (p := ⟨g, _, none⟩) hg).trans e0, (hb.cell (p := ⟨g, _, none⟩) hg).trans e1, (hb.cell (p := ⟨g, _, none⟩) hg).trans e2, (hb.cell (p := ⟨g, _, none⟩) hg).trans e3, (hb.cell (p := ⟨g, _, none⟩) hg).trans e4, (hb.cell (p := ⟨g, _, none⟩) hg).trans e5, hv.below hb⟩⟩
theorem BgsAt.wide (h : BgsAt w B A n bs) (hB : B ≤ B') : BgsAt w B' A n bs :=
  ⟨h.1, fun hn => by
    obtain ⟨g, off, e, hg, hc⟩ := h.2 hn
    refine ⟨g, off, e, by omega, fun k b hk => ?_⟩
    obtain ⟨v0, v1, v2, v3, v4, v5, e0, e1, e2, e3, e4, e5, hv⟩ := hc k b hk
    exact ⟨v0, v1, v2, v3, v4, v5, e0, e1, e2, e3, e4, e5, hv.wide hB⟩⟩
end
def bgsWt (bs : List Big) : Nat := bs.length + sumBy bigWt bs
def BgsW (bs : List Big) : Prop := bs.length ≤ maxLen ∧ ∀ b ∈ bs, BigW b

set_option maxRecDepth 20000 in
set_option maxHeartbeats 3200000 in
theorem szBS_any (A : Option Addr) (n c : Nat) (bs : List Big) (left : Int) (w : World) (B : Nat) (h : BgsAt w B A n bs) (hB : B ≤ w.heap.size) (hl0 : -1 ≤ left) (hl : left ≤ 1048576) (hw : BgsW bs) :
    Calls Tryz.prog 5 #[.slice A n c, .int .i64 left] w (szP (bgsWt bs) left w) := by
  have HL := Lib.hid h.1
  have hn : n ≤ maxLen := by have := hw.1; have := h.1; omega
  have HW := Lib.hid hw
  clear hw
  unfold maxLen at hn
  by_cases hneg : left - (n : Int) < 0
  · go_enter Tryz.func5, Tryz.ntmps5
    go_wp2_with fail
    go_ret
    exact ⟨-1, rfl, .inl (by omega), by omega, by omega, Below.refl _ _⟩
  · have hneg' : ¬ (left - (n : Int) < 0) := hneg
    go_enter Tryz.func5, Tryz.ntmps5
    go_wp2_with fail
    go_loopw [1, 5] (fun l i wr => ∃ k : Nat, k ≤ n ∧ i = .int .i64 k ∧ l = .int .i64 (left - n - sumBy bigWt (bs.take k)) ∧ 0 ≤ left - n - sumBy bigWt (bs.take k) ∧ Below w.heap.size w wr) (fun _ i _ => n - (intOf i).toNat)
    case atStart => exact ⟨0, Nat.zero_le _, rfl, by simp [sumBy], by simp [sumBy]; omega, Below.refl _ _⟩
    case round =>
      obtain ⟨k, hk, rfl, rfl, h0, hb⟩ := hrel
      by_cases hlt : k < n
      · obtain ⟨g, off, x, rfl, hbb, hx, A1, n1, c1, A2, n2, c2, A4, n4, c4, A5, n5, c5, e0, e1, e2, e3, e4, e5, hv⟩ := h.get hlt
        have d0 := (hb.cell (p := ⟨g, off + k * 6, none⟩) (show g < w.heap.size by omega)).trans e0
        have d1 := (hb.cell (p := ⟨g, off + k * 6 + 1, none⟩) (show g < w.heap.size by omega)).trans e1
        have d2 := (hb.cell (p := ⟨g, off + k * 6 + 2, none⟩) (show g < w.heap.size by omega)).trans e2
        have d3 := (hb.cell (p := ⟨g, off + k * 6 + 3, none⟩) (show g < w.heap.size by omega)).trans e3
        have d4 := (hb.cell (p := ⟨g, off + k * 6 + 4, none⟩) (show g < w.heap.size by omega)).trans e4
        have d5 := (hb.cell (p := ⟨g, off + k * 6 + 5, none⟩) (show g < w.heap.size by omega)).trans e5
        have hv' := hv.below (hb.mono hB)
        have HT := Lib.hid (sumBy_snoc bigWt hx)
        have hxw := HW.out.2 x (List.mem_of_getElem? hx)
        obtain ⟨T, hT⟩ : ∃ T, sumBy bigWt (bs.take k) = T := ⟨_, rfl⟩
        have HTe := Lib.hid hT
        rw [hT] at h0 ⊢
        have C := szB_any _ x (left - (n : Int) - T) wr B hv' (Nat.le_trans hB hb.size) (by omega) (by omega) hxw
        clear hx e0 e1 e2 e3 e4 e5 hT hv hv' hxw
        go_wp2_with fail
        refine C.mono ?_
        rintro e w1 ⟨r, rfl, hr, hr1, hr2, hb1⟩
        have hb2 := hb.trans (hb1.mono hb.size)
        clear hb1 C d0 d1 d2 d3 d4 d5
        by_cases hr0 : r < 0
        · go_wp2_with fail
          go_ret
          exact ⟨-1, rfl, .inl (by omega), by omega, by omega, hb2⟩
        · have hr3 : r = left - (n : Int) - T - bigWt x := by omega
          have HR3 := Lib.hid hr3
          clear hr hr3
          go_wp2_with fail
          go_roundw
          case rel => exact ⟨k + 1, by omega, by go_num, by rw [HT.out, HTe.out, HR3.out]; go_num, by rw [HT.out, HTe.out]; have := HR3.out; push_cast; omega, hb2⟩
          case measure => simp [intOf]; omega
      · have hkn : k = n := by omega
        subst hkn
        go_wp2_with fail
        go_ret
        refine ⟨left - k - sumBy bigWt (bs.take k), rfl, .inr ?_, by omega, by omega, hb⟩
        rw [List.take_of_length_le (by rw [HL.out]; omega)]
        unfold bgsWt
        rw [HL.out]
        push_cast
        omega

set_option maxRecDepth 20000 in
set_option maxHeartbeats 3200000 in
theorem eqBS_any (A A' : Option Addr) (n c c' : Nat) (bs : List Big) (w : World) (B B' : Nat) (h : BgsAt w B A n bs) (h' : BgsAt w B' A' n bs) (hB : B ≤ w.heap.size) (hB' : B' ≤ w.heap.size) (hn : n ≤ maxLen) (hw : ∀ b ∈ bs, BigW b ∧ b.outer.length ≤ 1048576) :
    Calls Tryz.prog 12 #[.slice A n c, .slice A' n c'] w fun e w' => e = .returned (.bool true) ∧ Below w.heap.size w w' := by
  have HW := Lib.hid hw
  clear hw
  unfold maxLen at hn
  go_enter Tryz.func12, Tryz.ntmps12
  go_wp2_with fail
  go_loopw [5] (fun i wr => ∃ k : Nat, k ≤ n ∧ i = .int .i64 k ∧ Below w.heap.size w wr) (fun i _ => n - (intOf i).toNat)
  case atStart => exact ⟨0, Nat.zero_le _, rfl, Below.refl _ _⟩
  case round =>
    obtain ⟨k, hk, rfl, hb⟩ := hrel
    by_cases hlt : k < n
    · obtain ⟨g, off, x, rfl, hbb, hx, A1, n1, c1, A2, n2, c2, A4, n4, c4, A5, n5, c5, e0, e1, e2, e3, e4, e5, hv⟩ := h.get hlt
      obtain ⟨g', off', x', rfl, hbb', hx', A1', n1', c1', A2', n2', c2', A4', n4', c4', A5', n5', c5', q0, q1, q2, q3, q4, q5, hv'⟩ := h'.get hlt
      rw [hx] at hx'
      injection hx' with e
      subst e
      obtain ⟨hxw, hxo⟩ := HW.out x (List.mem_of_getElem? hx)
      have d0 := (hb.cell (p := ⟨g, off + k * 6, none⟩) (show g < w.heap.size by omega)).trans e0
      have d1 := (hb.cell (p := ⟨g, off + k * 6 + 1, none⟩) (show g < w.heap.size by omega)).trans e1
      have d2 := (hb.cell (p := ⟨g, off + k * 6 + 2, none⟩) (show g < w.heap.size by omega)).trans e2
      have d3 := (hb.cell (p := ⟨g, off + k * 6 + 3, none⟩) (show g < w.heap.size by omega)).trans e3
      have d4 := (hb.cell (p := ⟨g, off + k * 6 + 4, none⟩) (show g < w.heap.size by omega)).trans e4
      have d5 := (hb.cell (p := ⟨g, off + k * 6 + 5, none⟩) (show g < w.heap.size by omega)).trans e5
      have f0 := (hb.cell (p := ⟨g', off' + k * 6, none⟩) (show g' < w.heap.size by omega)).trans q0
      have f1 := (hb.cell (p := ⟨g', off' + k * 6 + 1, none⟩) (show g' < w.heap.size by omega)).trans q1
      have f2 := (hb.cell (p := ⟨g', off' + k * 6 + 2, none⟩) (show g' < w.heap.size by omega)).trans q2
      have f3 := (hb.cell (p := ⟨g', off' + k * 6 + 3, none⟩) (show g' < w.heap.size by omega)).trans q3
      have f4 := (hb.cell (p := ⟨g', off' + k * 6 + 4, none⟩) (show g' < w.heap.size by omega)).trans q4
      have f5 := (hb.cell (p := ⟨g', off' + k * 6 + 5, none⟩) (show g' < w.heap.size by omega)).trans q5
      have HV := Lib.hid (And.intro ((hv.wide hB).below hb) ((hv'.wide hB').below hb))
      have HXw := Lib.hid (And.intro hxw hxo)
      clear hx e0 e1 e2 e3 e4 e5 q0 q1 q2 q3 q4 q5 hv hv' hxw hxo
      go_wp2_with fail
      go_still_tail 8, (by kernel_rfl)
      change wpList _ _ _ _ _ wr.drew
      obtain ⟨w2, hw2⟩ : ∃ w2, wr.drew = w2 := ⟨_, rfl⟩
      have hb2 : Below w.heap.size w w2 := hw2 ▸ hb.drew
      have hwr2 : Below w.heap.size wr w2 := by rw [← hw2]; exact (Below.refl _ _).drew
      rw [hw2]
      clear hw2 d0 d1 d2 d3 d4 d5 f0 f1 f2 f3 f4 f5
      go_wp2_with fail
      refine (eqB_any _ _ x _ w.heap.size w.heap.size (HV.out.1.below hwr2) (HV.out.2.below hwr2) hb2.size hb2.size HXw.out.1 HXw.out.2).mono ?_
      rintro e w3 ⟨rfl, hb3⟩
      have hb3' := hb2.trans (hb3.mono hb2.size)
      clear hb3
      go_wp2_with fail
      go_roundw
      case rel => exact ⟨k + 1, by omega, by go_num, hb3'⟩
      case measure => simp [intOf]; omega
    · go_wp2_with fail
      go_ret
      exact ⟨rfl, hb⟩

/-- a row where the six cells of element k are new -/
def six6 (f : Nat → Value) (k : Nat) (v0 v1 v2 v3 v4 v5 : Value) (i : Nat) : Value := if i = k * 6 + 5 then v5 else if i = k * 6 + 4 then v4 else if i = k * 6 + 3 then v3 else if i = k * 6 + 2 then v2 else if i = k * 6 + 1 then v1 else if i = k * 6 then v0 else f i
def put6k (w : World) (g k : Nat) (v0 v1 v2 v3 v4 v5 : Value) : World := ((((((w.setCell ⟨g, k * 6, none⟩ v0).setCell ⟨g, k * 6 + 1, none⟩ v1).setCell ⟨g, k * 6 + 2, none⟩ v2).setCell ⟨g, k * 6 + 3, none⟩ v3).setCell ⟨g, k * 6 + 4, none⟩ v4).setCell ⟨g, k * 6 + 5, none⟩ v5)
theorem put6k_row {w : World} {g m : Nat} {t : TypeId} {f : Nat → Value} (h : w.rowIs g t m f) (k : Nat) (v0 v1 v2 v3 v4 v5 : Value) : (put6k w g k v0 v1 v2 v3 v4 v5).rowIs g t m (six6 f k v0 v1 v2 v3 v4 v5) :=
  ((((((h.set (k * 6) v0).set (k * 6 + 1) v1).set (k * 6 + 2) v2).set (k * 6 + 3) v3).set (k * 6 + 4) v4).set (k * 6 + 5) v5).congr (fun j _ => rfl)
theorem six6_new (f : Nat → Value) (k : Nat) (v0 v1 v2 v3 v4 v5 : Value) : six6 f k v0 v1 v2 v3 v4 v5 (k * 6) = v0 ∧ six6 f k v0 v1 v2 v3 v4 v5 (k * 6 + 1) = v1 ∧ six6 f k v0 v1 v2 v3 v4 v5 (k * 6 + 2) = v2 ∧ six6 f k v0 v1 v2 v3 v4 v5 (k * 6 + 3) = v3 ∧ six6 f k v0 v1 v2 v3 v4 v5 (k * 6 + 4) = v4 ∧ six6 f k v0 v1 v2 v3 v4 v5 (k * 6 + 5) = v5 := by
  unfold six6
  refine ⟨?_, ?_, ?_, ?_, ?_, ?_⟩ <;> simp
theorem six6_old (f : Nat → Value) (k j d : Nat) (v0 v1 v2 v3 v4 v5 : Value) (hj : j ≠ k) (hd : d < 6) : six6 f k v0 v1 v2 v3 v4 v5 (j * 6 + d) = f (j * 6 + d) := by
  unfold six6
  rw [if_neg (by omega), if_neg (by omega), if_neg (by omega), if_neg (by omega), if_neg (by omega), if_neg (by omega)]
theorem put6k_size {w : World} {g k : Nat} {v0 v1 v2 v3 v4 v5 : Value} : (put6k w g k v0 v1 v2 v3 v4 v5).heap.size = w.heap.size := by simp [put6k, World.setCell]
theorem put6k_block {w : World} {g k : Nat} {v0 v1 v2 v3 v4 v5 : Value} {i : Nat} (h : i ≠ g) : (put6k w g k v0 v1 v2 v3 v4 v5).heap[i]? = w.heap[i]? := by
  unfold put6k
  rw [Below.heap_setCell _ _ _ _ (by simpa using h), Below.heap_setCell _ _ _ _ (by simpa using h), Below.heap_setCell _ _ _ _ (by simpa using h), Below.heap_setCell _ _ _ _ (by simpa using h), Below.heap_setCell _ _ _ _ (by simpa using h), Below.heap_setCell _ _ _ _ (by simpa using h)]
theorem put6k_below {B : Nat} {a w : World} (h : Below B a w) {g : Nat} (hg : B ≤ g) (k : Nat) (v0 v1 v2 v3 v4 v5 : Value) : Below B a (put6k w g k v0 v1 v2 v3 v4 v5) :=
  (((((h.setCell (p := ⟨g, _, none⟩) hg v0).setCell (p := ⟨g, _, none⟩) hg v1).setCell (p := ⟨g, _, none⟩) hg v2).setCell (p := ⟨g, _, none⟩) hg v3).setCell (p := ⟨g, _, none⟩) hg v4).setCell (p := ⟨g, _, none⟩) hg v5

/-- the value of element j of a row -/
def aggAt (f : Nat → Value) (j : Nat) : Value := .agg #[f (j * 6), f (j * 6 + 1), f (j * 6 + 2), f (j * 6 + 3), f (j * 6 + 4), f (j * 6 + 5)]
/-- the first k Bigraphs stand in row g, each in blocks of its own: those of element j from L j on, below L (j + 1) -/
def BgsK (w : World) (g n k : Nat) (bs : List Big) : Prop :=
  ∃ (f : Nat → Value) (L : Nat → Nat), w.rowIs g 31 (n * 6) f ∧ (∀ j, j ≤ k → g < L j ∧ L j ≤ w.heap.size) ∧ ∀ (j : Nat) b, j < k → bs[j]? = some b → BigOwn w (L j) (L (j + 1)) (aggAt f j) b
def newL (L : Nat → Nat) (k a c j : Nat) : Nat := if j < k then L j else if j = k then a else c
theorem newL_lt {L : Nat → Nat} {k a c j : Nat} (h : j < k) : newL L k a c j = L j := if_pos h
theorem newL_eq {L : Nat → Nat} {k a c : Nat} : newL L k a c k = a := by unfold newL; rw [if_neg (by omega), if_pos rfl]
theorem newL_gt {L : Nat → Nat} {k a c j : Nat} (h : k < j) : newL L k a c j = c := by unfold newL; rw [if_neg (by omega), if_neg (by omega)]
theorem bgsK_next {wr w1 : World} {g n k : Nat} {bs : List Big} {x : Big} {v0 v1 v2 v3 v4 v5 : Value} (h : BgsK wr g n k bs) (hx : bs[k]? = some x) (hb : Below wr.heap.size wr w1) (hg : g < wr.heap.size) (hv : BigOwn w1 wr.heap.size w1.heap.size (.agg #[v0, v1, v2, v3, v4, v5]) x) :
    BgsK (put6k w1 g k v0 v1 v2 v3 v4 v5) g n (k + 1) bs := by
  obtain ⟨f, L, hrow, hL, hf⟩ := h
  have hs := hb.size
  have hsz : (put6k w1 g k v0 v1 v2 v3 v4 v5).heap.size = w1.heap.size := put6k_size
  have hbl : ∀ i, i ≠ g → (put6k w1 g k v0 v1 v2 v3 v4 v5).heap[i]? = w1.heap[i]? := fun i h => put6k_block h
  have hr6 := put6k_row (hrow.of_block (hb.block g hg)) k v0 v1 v2 v3 v4 v5
  obtain ⟨W, hW⟩ : ∃ W, put6k w1 g k v0 v1 v2 v3 v4 v5 = W := ⟨_, rfl⟩
  obtain ⟨e0, e1, e2, e3, e4, e5⟩ := six6_new f k v0 v1 v2 v3 v4 v5
  have hold6 : ∀ j d, j ≠ k → d < 6 → six6 f k v0 v1 v2 v3 v4 v5 (j * 6 + d) = f (j * 6 + d) := fun j d h1 h2 => six6_old f k j d _ _ _ _ _ _ h1 h2
  obtain ⟨F, hF⟩ : ∃ F, six6 f k v0 v1 v2 v3 v4 v5 = F := ⟨_, rfl⟩
  rw [hW] at hsz hbl hr6 ⊢
  rw [hF] at hr6 e0 e1 e2 e3 e4 e5 hold6
  clear hW hF
  refine ⟨F, newL L k wr.heap.size w1.heap.size, hr6, fun j hj => ?_, fun j y hj hy => ?_⟩
  · rw [hsz]
    rcases Nat.lt_trichotomy j k with h | h | h
    · rw [newL_lt h]
      have := hL j (by omega)
      omega
    · rw [h, newL_eq]
      omega
    · rw [newL_gt h]
      omega
  · rcases Nat.lt_trichotomy j k with h | h | h
    · have hold := hf j y h hy
      have h1 := hL j (by omega)
      have h2 := hL (j + 1) (by omega)
      have ea : aggAt F j = aggAt f j := by
        unfold aggAt
        have := hold6 j 0 (by omega) (by omega)
        rw [Nat.add_zero] at this
        rw [this, hold6 j 1 (by omega) (by omega), hold6 j 2 (by omega) (by omega), hold6 j 3 (by omega) (by omega), hold6 j 4 (by omega) (by omega), hold6 j 5 (by omega) (by omega)]
      rw [ea, newL_lt h]
      have hk1 : BigOwn W (L j) (L (j + 1)) (aggAt f j) y := hold.blocks (fun i h3 h4 => (hbl i (by omega)).trans (hb.block i (by omega)))
      by_cases e2 : j + 1 < k
      · rw [newL_lt e2]
        exact hk1
      · rw [show j + 1 = k by omega, newL_eq]
        rw [show j + 1 = k by omega] at hk1 h2
        exact hk1.wide (Nat.le_refl _) h2.2
    · subst h
      rw [hx] at hy
      injection hy with hy
      subst hy
      rw [newL_eq, newL_gt (Nat.lt_succ_self _)]
      have ea : aggAt F j = .agg #[v0, v1, v2, v3, v4, v5] := by
        unfold aggAt
        rw [e0, e1, e2, e3, e4, e5]
      rw [ea]
      exact hv.blocks (fun i h1 _ => hbl i (by omega))
    · omega

theorem BgsK.at {w : World} {g n : Nat} {bs : List Big} (h : BgsK w g n n bs) (hl : bs.length = n) (hg : g < w.heap.size) : BgsAt w w.heap.size (some ⟨g, 0, none⟩) n bs := by
  obtain ⟨f, L, hrow, hL, hf⟩ := h
  refine ⟨hl, fun _ => ⟨g, 0, rfl, hg, fun k b hk => ?_⟩⟩
  have hkn : k < n := by have := (List.getElem?_eq_some_iff.1 hk).1; omega
  have hb := hf k b hkn hk
  have h2 := hL (k + 1) (by omega)
  rw [Nat.zero_add]
  exact ⟨_, _, _, _, _, _, hrow.cell (by omega), hrow.cell (by omega), hrow.cell (by omega), hrow.cell (by omega), hrow.cell (by omega), hrow.cell (by omega), hb.at.wide h2.2⟩
theorem bigraph_info : (Tryz.prog.info? 31).map (fun i => (i.zero, i.size, i.bytes)) = some (some (.agg #[.int .i64 0, .slice none 0 0, .slice none 0 0, .int .i64 0, .slice none 0 0, .slice none 0 0]), 6, 112) := by kernel_rfl

set_option maxRecDepth 20000 in
set_option maxHeartbeats 3200000 in
theorem toBS_any (A : Option Addr) (n c : Nat) (bs : List Big) (w : World) (h : BgsAt w w.heap.size A n bs) (hn : n ≤ 1048576) (hw : ∀ b ∈ bs, BigS b) :
    Calls Tryz.prog 8 #[.slice A n c] w fun e w' => ∃ g, e = .returned (.slice (some ⟨g, 0, none⟩) n n) ∧ BgsK w' g n n bs ∧ w.heap.size ≤ g ∧ g < w'.heap.size ∧ Below w.heap.size w w' := by
  have HL := Lib.hid h.1
  have HW := Lib.hid hw
  clear hw
  have hmk : ∀ W : World, (Instr.makeSlice 36 (.int .i64 (n : Int)) (.int .i64 (n : Int))).run Tryz.prog W = .ok (.slice (some ⟨W.heap.size, 0, none⟩) n n) (W.alloc (.cells (madeCells #[.int .i64 0, .slice none 0 0, .slice none 0 0, .int .i64 0, .slice none 0 0, .slice none 0 0] (n * 6)) 31)) := by
    intro W
    obtain ⟨i0, hi, hz0, hz1, hz2⟩ := info_parts bigraph_info
    have hr := run_make (P := Tryz.prog) W 36 31 i0 _ Tryz.underlying36 hi hz0 .i64 .i64 n n (by omega) (Int.le_refl _) (by rw [hz2]; omega) (by omega)
    simp only [Int.toNat_natCast, hz1] at hr
    exact hr
  go_enter Tryz.func8, Tryz.ntmps8
  go_wp2_with fail
  clear hmk
  go_loopw [4] (fun i wr => ∃ k : Nat, k ≤ n ∧ i = .int .i64 k ∧ BgsK wr w.heap.size n k bs ∧ Below w.heap.size w wr ∧ w.heap.size < wr.heap.size) (fun i _ => n - (intOf i).toNat)
  case atStart => exact ⟨0, Nat.zero_le _, rfl, ⟨_, fun _ => w.heap.size + 1, row_new w _ _ _ (size_madeCells _ _), fun j hj => by simp, fun j b hj => absurd hj (Nat.not_lt_zero j)⟩, (Below.refl _ _).alloc (Nat.le_refl _) _, by simp⟩
  case round =>
    obtain ⟨k, hk, rfl, hkk, hbel, hlt0⟩ := hrel
    by_cases hlt : k < n
    · obtain ⟨g, off, x, rfl, hbb, hx, A1, n1, c1, A2, n2, c2, A4, n4, c4, A5, n5, c5, e0, e1, e2, e3, e4, e5, hv⟩ := h.get hlt
      have d0 := (hbel.cell (p := ⟨g, off + k * 6, none⟩) hbb).trans e0
      have d1 := (hbel.cell (p := ⟨g, off + k * 6 + 1, none⟩) hbb).trans e1
      have d2 := (hbel.cell (p := ⟨g, off + k * 6 + 2, none⟩) hbb).trans e2
      have d3 := (hbel.cell (p := ⟨g, off + k * 6 + 3, none⟩) hbb).trans e3
      have d4 := (hbel.cell (p := ⟨g, off + k * 6 + 4, none⟩) hbb).trans e4
      have d5 := (hbel.cell (p := ⟨g, off + k * 6 + 5, none⟩) hbb).trans e5
      have C := toB_any _ x wr ((hv.below hbel).wide hbel.size) (HW.out x (List.mem_of_getElem? hx))
      have HX := Lib.hid hx
      have HK := Lib.hid hkk
      obtain ⟨f, L, hrow, -⟩ := hkk
      clear hx e0 e1 e2 e3 e4 e5 hv
      go_wp2_with fail
      refine C.mono ?_
      rintro e w1 ⟨v', rfl, hown, hb1⟩
      have hbel1 := hbel.trans (hb1.mono hbel.size)
      have hrow1 := hrow.of_block (hb1.block _ hlt0)
      have hown' := hown
      obtain ⟨g1, g2, g4, g5, rfl, -⟩ := hown'
      have z0 := hrow1.cell (show k * 6 < n * 6 by omega)
      have z1 := hrow1.cell (show k * 6 + 1 < n * 6 by omega)
      have z2 := hrow1.cell (show k * 6 + 2 < n * 6 by omega)
      have z3 := hrow1.cell (show k * 6 + 3 < n * 6 by omega)
      have z4 := hrow1.cell (show k * 6 + 4 < n * 6 by omega)
      have z5 := hrow1.cell (show k * 6 + 5 < n * 6 by omega)
      have f0 := hrow1.frozen (k * 6)
      have f1 := hrow1.frozen (k * 6 + 1)
      have f2 := hrow1.frozen (k * 6 + 2)
      have f3 := hrow1.frozen (k * 6 + 3)
      have f4 := hrow1.frozen (k * 6 + 4)
      have f5 := hrow1.frozen (k * 6 + 5)
      have hs1 := hb1.size
      have HN := Lib.hid (bgsK_next HK.out HX.out hb1 hlt0 hown)
      have HB := Lib.hid (put6k_below hbel1 (Nat.le_refl _) k (.int .i64 x.roots) (.slice (some ⟨g1, 0, none⟩) x.nodes.length x.nodes.length) (.slice (some ⟨g2, 0, none⟩) x.sites.length x.sites.length) (.int .i64 x.edges) (.slice (some ⟨g4, 0, none⟩) x.outer.length x.outer.length) (.slice (some ⟨g5, 0, none⟩) x.inner.length x.inner.length))
      have HZ := Lib.hid (show w.heap.size < (put6k w1 w.heap.size k (.int .i64 x.roots) (.slice (some ⟨g1, 0, none⟩) x.nodes.length x.nodes.length) (.slice (some ⟨g2, 0, none⟩) x.sites.length x.sites.length) (.int .i64 x.edges) (.slice (some ⟨g4, 0, none⟩) x.outer.length x.outer.length) (.slice (some ⟨g5, 0, none⟩) x.inner.length x.inner.length)).heap.size by rw [put6k_size]; omega)
      clear hb1 hbel1 hrow hrow1 hbel hown C d0 d1 d2 d3 d4 d5
      go_wp2_with fail
      go_roundw
      case rel => exact ⟨k + 1, by omega, by go_num, HN.out, HB.out, HZ.out⟩
      case measure => simp [intOf]; omega
    · obtain rfl : k = n := by omega
      go_wp2_with fail
      go_ret
      exact ⟨w.heap.size, rfl, hkk, Nat.le_refl _, hlt0, hbel⟩
end Go.Proofs.YtlpgldejmdiceabGreat.bgs

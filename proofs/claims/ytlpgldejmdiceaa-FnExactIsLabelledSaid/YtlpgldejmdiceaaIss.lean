/- Rows of slices of ints: where they lie; the laws' size, copy and comparison of them. -/
import Derived.Test.YtlpgldejmdiceaaQd
import Derived.StillTailTactics
namespace Go.Proofs.Ytlpgldejmdiceaa.iss
open kit bg opn strs only hb sg sig isig un hc hi ht
open Go.RowKit
set_option linter.unusedVariables false
set_option linter.unusedSimpArgs false

/-- a row of slices of ints at a slice -/
def IssAt (w : World) (B : Nat) (A : Option Addr) (n : Nat) (bs : List (List Int)) : Prop :=
  bs.length = n ∧ (0 < n → ∃ g off, A = some ⟨g, off, none⟩ ∧ g < B ∧ ∀ (k : Nat) b, bs[k]? = some b → ∃ A1 n1 c1, w.cell? ⟨g, off + k, none⟩ = some (.slice A1 n1 c1) ∧ IntsAt w B A1 n1 b)
section
variable {w w' : World} {B B' n : Nat} {A : Option Addr} {bs : List (List Int)}
theorem IssAt.get {k : Nat} (h : IssAt w B A n bs) (hk : k < n) : ∃ g off b A1 n1 c1, A = some ⟨g, off, none⟩ ∧ g < B ∧ bs[k]? = some b ∧ w.cell? ⟨g, off + k, none⟩ = some (.slice A1 n1 c1) ∧ IntsAt w B A1 n1 b := by
  obtain ⟨g, off, e, hg, hc⟩ := h.2 (by omega)
  have hx : bs[k]? = some (bs[k]'(by have := h.1; omega)) := List.getElem?_eq_getElem _
  obtain ⟨A1, n1, c1, e0, hb⟩ := hc k _ hx
  exact ⟨g, off, _, A1, n1, c1, e, hg, hx, e0, hb⟩
theorem IssAt.below (h : IssAt w B A n bs) (hb : Below B w w') : IssAt w' B A n bs :=
  ⟨h.1, fun hn => by
    obtain ⟨g, off, e, hg, hc⟩ := h.2 hn
    refine ⟨g, off, e, hg, fun k b hk => ?_⟩
    obtain ⟨A1, n1, c1, e0, hv⟩ := hc k b hk
    exact ⟨A1, n1, c1, (hb.cell (p := ⟨g, _, none⟩) hg).trans e0, hv.below hb⟩⟩
theorem IssAt.wide (h : IssAt w B A n bs) (hB : B ≤ B') : IssAt w B' A n bs :=
  ⟨h.1, fun hn => by
    obtain ⟨g, off, e, hg, hc⟩ := h.2 hn
    refine ⟨g, off, e, by omega, fun k b hk => ?_⟩
    obtain ⟨A1, n1, c1, e0, hv⟩ := hc k b hk
    exact ⟨A1, n1, c1, e0, hv.wide hB⟩⟩
end
def issWt (bs : List (List Int)) : Nat := bs.length + sumBy List.length bs
def IssW (bs : List (List Int)) : Prop := bs.length ≤ maxLen ∧ ∀ b ∈ bs, b.length ≤ maxLen ∧ ∀ z ∈ b, (Lit.int .i64 z).wf = true

set_option maxRecDepth 20000 in
set_option maxHeartbeats 3200000 in
theorem szISS_any (A : Option Addr) (n c : Nat) (bs : List (List Int)) (left : Int) (w : World) (B : Nat) (h : IssAt w B A n bs) (hB : B ≤ w.heap.size) (hl0 : -1 ≤ left) (hl : left ≤ 1048576) (hw : IssW bs) :
    Calls Try.prog 95 #[.slice A n c, .int .i64 left] w (szP (issWt bs) left w) := by
  have HL := Lib.hid h.1
  have hn : n ≤ maxLen := by have := hw.1; have := h.1; omega
  have HW := Lib.hid hw
  clear hw
  unfold maxLen at hn
  by_cases hneg : left - (n : Int) < 0
  · go_enter Try.func95, Try.ntmps95
    go_wp2_with fail
    go_ret
    exact ⟨-1, rfl, .inl (by omega), by omega, by omega, Below.refl _ _⟩
  · have hneg' : ¬ (left - (n : Int) < 0) := hneg
    go_enter Try.func95, Try.ntmps95
    go_wp2_with fail
    go_loopw [1, 5] (fun l i wr => ∃ k : Nat, k ≤ n ∧ i = .int .i64 k ∧ l = .int .i64 (left - n - sumBy List.length (bs.take k)) ∧ 0 ≤ left - n - sumBy List.length (bs.take k) ∧ Below w.heap.size w wr) (fun _ i _ => n - (intOf i).toNat)
    case atStart => exact ⟨0, Nat.zero_le _, rfl, by simp [sumBy], by simp [sumBy]; omega, Below.refl _ _⟩
    case round =>
      obtain ⟨k, hk, rfl, rfl, h0, hb⟩ := hrel
      by_cases hlt : k < n
      · obtain ⟨g, off, x, A1, n1, c1, rfl, hbb, hx, e0, hv⟩ := h.get hlt
        have d0 := (hb.cell (p := ⟨g, off + k, none⟩) (show g < w.heap.size by omega)).trans e0
        have hxl : x.length = n1 := hv.len
        have HT := Lib.hid (sumBy_snoc List.length hx)
        have hxw := HW.out.2 x (List.mem_of_getElem? hx)
        obtain ⟨T, hT⟩ : ∃ T, sumBy List.length (bs.take k) = T := ⟨_, rfl⟩
        have HTe := Lib.hid hT
        rw [hT] at h0 ⊢
        have C := szI_any A1 n1 c1 (left - (n : Int) - T) wr (by omega) (by omega) (by have := hxw.1; omega)
        clear hx e0 hT hv hxw
        go_wp2_with fail
        refine C.mono ?_
        rintro e w1 ⟨r, rfl, hr, hr1, hr2, hb1⟩
        have hb2 := hb.trans (hb1.mono hb.size)
        clear hb1 C d0
        by_cases hr0 : r < 0
        · go_wp2_with fail
          go_ret
          exact ⟨-1, rfl, .inl (by omega), by omega, by omega, hb2⟩
        · have hr3 : r = left - (n : Int) - T - n1 := by omega
          have HR3 := Lib.hid (And.intro hr3 hxl)
          clear hr hr3 hxl
          go_wp2_with fail
          go_roundw
          case rel => exact ⟨k + 1, by omega, by go_num, by rw [HT.out, HTe.out, HR3.out.1, HR3.out.2]; go_num, by rw [HT.out, HTe.out]; have := HR3.out; push_cast; omega, hb2⟩
          case measure => simp [intOf]; omega
      · have hkn : k = n := by omega
        subst hkn
        go_wp2_with fail
        go_ret
        refine ⟨left - k - sumBy List.length (bs.take k), rfl, .inr ?_, by omega, by omega, hb⟩
        rw [List.take_of_length_le (by rw [HL.out]; omega)]
        unfold issWt
        rw [HL.out]
        push_cast
        omega

set_option maxRecDepth 20000 in
set_option maxHeartbeats 3200000 in
theorem eqISS_any (A A' : Option Addr) (n c c' : Nat) (bs : List (List Int)) (w : World) (B B' : Nat) (h : IssAt w B A n bs) (h' : IssAt w B' A' n bs) (hB : B ≤ w.heap.size) (hB' : B' ≤ w.heap.size) (hn : n ≤ maxLen) (hw : ∀ b ∈ bs, b.length ≤ maxLen) :
    Calls Try.prog 102 #[.slice A n c, .slice A' n c'] w fun e w' => e = .returned (.bool true) ∧ Below w.heap.size w w' := by
  have HW := Lib.hid hw
  clear hw
  unfold maxLen at hn
  go_enter Try.func102, Try.ntmps102
  go_wp2_with fail
  go_loopw [5] (fun i wr => ∃ k : Nat, k ≤ n ∧ i = .int .i64 k ∧ Below w.heap.size w wr) (fun i _ => n - (intOf i).toNat)
  case atStart => exact ⟨0, Nat.zero_le _, rfl, Below.refl _ _⟩
  case round =>
    obtain ⟨k, hk, rfl, hb⟩ := hrel
    by_cases hlt : k < n
    · obtain ⟨g, off, x, A1, n1, c1, rfl, hbb, hx, e0, hv⟩ := h.get hlt
      obtain ⟨g', off', x', A1', n1', c1', rfl, hbb', hx', q0, hv'⟩ := h'.get hlt
      rw [hx] at hx'
      injection hx' with e
      subst e
      have hxw := HW.out x (List.mem_of_getElem? hx)
      obtain rfl : n1 = n1' := hv.len.symm.trans hv'.len
      have d0 := (hb.cell (p := ⟨g, off + k, none⟩) (show g < w.heap.size by omega)).trans e0
      have f0 := (hb.cell (p := ⟨g', off' + k, none⟩) (show g' < w.heap.size by omega)).trans q0
      have hn1 : n1 ≤ maxLen := by have := hv.len; omega
      have HV := Lib.hid (And.intro (hn1) (And.intro ((hv.wide hB).below hb) ((hv'.wide hB').below hb)))
      clear hx e0 q0 hv hv' hxw hn1
      go_wp2_with fail
      go_still_tail 8, (by kernel_rfl)
      change wpList _ _ _ _ _ wr.drew
      obtain ⟨w2, hw2⟩ : ∃ w2, wr.drew = w2 := ⟨_, rfl⟩
      have hb2 : Below w.heap.size w w2 := hw2 ▸ hb.drew
      have hwr2 : Below w.heap.size wr w2 := by rw [← hw2]; exact (Below.refl _ _).drew
      rw [hw2]
      clear hw2 d0 f0
      go_wp2_with fail
      refine (eqIS_any _ _ n1 _ _ x _ w.heap.size w.heap.size (HV.out.2.1.below hwr2) (HV.out.2.2.below hwr2) HV.out.1).mono ?_
      rintro e w3 ⟨rfl, hd3⟩
      have hb3' := hb2.trans (hd3.below _)
      clear hd3
      go_wp2_with fail
      go_roundw
      case rel => exact ⟨k + 1, by omega, by go_num, hb3'⟩
      case measure => simp [intOf]; omega
    · go_wp2_with fail
      go_ret
      exact ⟨rfl, hb⟩

/-- the first k slices stand in row g, each in a block of its own -/
def IssK (w : World) (g n k : Nat) (bs : List (List Int)) : Prop :=
  ∃ (f : Nat → Value) (L : Nat → Nat), w.rowIs g 38 n f ∧ (∀ j, j < k → g < L j ∧ L j < w.heap.size) ∧ (∀ i j, i < j → j < k → L i < L j) ∧
    ∀ (j : Nat) b, j < k → bs[j]? = some b → f j = .slice (some ⟨L j, 0, none⟩) b.length b.length ∧ w.rowIs (L j) 3 b.length (iat b)
theorem issK_next {wr w1 : World} {g n k : Nat} {bs : List (List Int)} {x : List Int} (h : IssK wr g n k bs) (hx : bs[k]? = some x) (hb : Below wr.heap.size wr w1) (hg : g < wr.heap.size) (hv : w1.rowIs wr.heap.size 3 x.length (iat x)) :
    IssK (w1.setCell ⟨g, k, none⟩ (.slice (some ⟨wr.heap.size, 0, none⟩) x.length x.length)) g n (k + 1) bs := by
  obtain ⟨f, L, hrow, hL, hM, hf⟩ := h
  have hs := hb.size
  have hvl := hv.lt
  have hsz : (w1.setCell ⟨g, k, none⟩ (.slice (some ⟨wr.heap.size, 0, none⟩) x.length x.length)).heap.size = w1.heap.size := by simp [World.setCell]
  refine ⟨fun i => if i = k then .slice (some ⟨wr.heap.size, 0, none⟩) x.length x.length else f i, fun j => if j < k then L j else wr.heap.size, (hrow.of_block (hb.block g hg)).set k _, fun j hj => ?_, fun i j hij hj => ?_, fun j y hj hy => ?_⟩
  · rw [hsz]
    by_cases e : j < k
    · have := hL j e
      simp only [if_pos e]
      omega
    · simp only [if_neg e]
      omega
  · by_cases e : j < k
    · simp only [if_pos e, if_pos (show i < k by omega)]
      exact hM i j hij e
    · simp only [if_neg e, if_pos (show i < k by omega)]
      exact (hL i (by omega)).2
  · by_cases e : j < k
    · obtain ⟨e1, e2⟩ := hf j y e hy
      have h1 := hL j e
      simp only [if_pos e, if_neg (show ¬ j = k by omega)]
      exact ⟨e1, (e2.of_block (hb.block _ h1.2)).setOther (a := ⟨g, k, none⟩) (by show L j ≠ g; omega) _⟩
    · obtain rfl : j = k := by omega
      rw [hx] at hy
      injection hy with hy
      subst hy
      simp only [if_neg e, if_pos]
      exact ⟨trivial, hv.setOther (a := ⟨g, j, none⟩) (by show wr.heap.size ≠ g; omega) _⟩
theorem IssK.at {w : World} {g n : Nat} {bs : List (List Int)} (h : IssK w g n n bs) (hl : bs.length = n) (hg : g < w.heap.size) : IssAt w w.heap.size (some ⟨g, 0, none⟩) n bs := by
  obtain ⟨f, L, hrow, hL, hM, hf⟩ := h
  refine ⟨hl, fun _ => ⟨g, 0, rfl, hg, fun k b hk => ?_⟩⟩
  have hkn : k < n := by have := (List.getElem?_eq_some_iff.1 hk).1; omega
  obtain ⟨e1, e2⟩ := hf k b hkn hk
  rw [Nat.zero_add]
  refine ⟨_, _, _, (hrow.cell hkn).trans (by rw [e1]), by simp, fun _ => ⟨L k, 0, rfl, (hL k hkn).2, fun i u hi => ?_⟩⟩
  rw [List.getElem?_map] at hi
  obtain ⟨z, hz, rfl⟩ := Option.map_eq_some_iff.1 hi
  have hlt := (List.getElem?_eq_some_iff.1 hz).1
  rw [Nat.zero_add, e2.cell (by omega), iat_of hz]
theorem ints_info : (Try.prog.info? 38).map (fun i => (i.zero, i.size, i.bytes)) = some (some (.slice none 0 0), 1, 24) := by kernel_rfl

set_option maxRecDepth 20000 in
set_option maxHeartbeats 3200000 in
theorem toISS_any (A : Option Addr) (n c : Nat) (bs : List (List Int)) (w : World) (h : IssAt w w.heap.size A n bs) (hn : n ≤ 1048576) (hw : ∀ b ∈ bs, b.length ≤ 1048576) :
    Calls Try.prog 97 #[.slice A n c] w fun e w' => ∃ g, e = .returned (.slice (some ⟨g, 0, none⟩) n n) ∧ IssK w' g n n bs ∧ w.heap.size ≤ g ∧ g < w'.heap.size ∧ Below w.heap.size w w' := by
  have HL := Lib.hid h.1
  have HW := Lib.hid hw
  clear hw
  have hmk := fun W => run_make_row' (P := Try.prog) 62 38 (.slice none 0 0) 24 Try.underlying62 ints_info rfl .i64 .i64 n (by omega) (by omega) W
  go_enter Try.func97, Try.ntmps97
  go_wp2_with fail
  clear hmk
  go_loopw [4] (fun i wr => ∃ k : Nat, k ≤ n ∧ i = .int .i64 k ∧ IssK wr w.heap.size n k bs ∧ Below w.heap.size w wr ∧ w.heap.size < wr.heap.size) (fun i _ => n - (intOf i).toNat)
  case atStart => exact ⟨0, Nat.zero_le _, rfl, ⟨_, fun _ => w.heap.size + 1, row_new w _ _ _ (by first | simp | rfl | exact size_madeCells _ _), fun j hj => absurd hj (Nat.not_lt_zero j), fun i j _ hj => absurd hj (Nat.not_lt_zero j), fun j b hj => absurd hj (Nat.not_lt_zero j)⟩, (Below.refl _ _).alloc (Nat.le_refl _) _, by simp⟩
  case round =>
    obtain ⟨k, hk, rfl, hkk, hbel, hlt0⟩ := hrel
    by_cases hlt : k < n
    · obtain ⟨g, off, x, A1, n1, c1, rfl, hbb, hx, e0, hv⟩ := h.get hlt
      have d0 := (hbel.cell (p := ⟨g, off + k, none⟩) hbb).trans e0
      obtain rfl : x.length = n1 := hv.len
      have C := toIS_any A1 x.length c1 x wr ((hv.below hbel).wide hbel.size) (HW.out x (List.mem_of_getElem? hx))
      have HX := Lib.hid hx
      have HK := Lib.hid hkk
      obtain ⟨f, L, hrow, -⟩ := hkk
      clear hx e0 hv
      go_wp2_with fail
      refine C.mono ?_
      rintro e w1 ⟨rfl, hrow2, hb1⟩
      have hbel1 := hbel.trans (hb1.mono hbel.size)
      have hrow1 := hrow.of_block (hb1.block _ hlt0)
      have z0 := hrow1.cell hlt
      have f0 := hrow1.frozen k
      have hs1 := hb1.size
      have HN := Lib.hid (issK_next HK.out HX.out hb1 hlt0 hrow2)
      have HB := Lib.hid (hbel1.setCell (p := ⟨w.heap.size, k, none⟩) (Nat.le_refl _) (.slice (some ⟨wr.heap.size, 0, none⟩) x.length x.length))
      have HZ := Lib.hid (show w.heap.size < (w1.setCell ⟨w.heap.size, k, none⟩ (.slice (some ⟨wr.heap.size, 0, none⟩) x.length x.length)).heap.size by simp [World.setCell]; omega)
      clear hb1 hbel1 hrow hrow1 hrow2 hbel C d0
      go_wp2_with fail
      go_roundw
      case rel => exact ⟨k + 1, by omega, by go_num, HN.out, HB.out, HZ.out⟩
      case measure => simp [intOf]; omega
    · obtain rfl : k = n := by omega
      go_wp2_with fail
      go_ret
      exact ⟨w.heap.size, rfl, hkk, Nat.le_refl _, hlt0, hbel⟩
end Go.Proofs.Ytlpgldejmdiceaa.iss

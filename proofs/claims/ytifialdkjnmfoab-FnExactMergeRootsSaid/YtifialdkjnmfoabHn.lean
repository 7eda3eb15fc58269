/- The law's own helpers on []Node. -/
import Derived.Test.YtifialdkjnmfoabHi
import Derived.Test.YtifialdkjnmfoabHc
namespace Go.Proofs.Ytifialdkjnmfoab.hn
open kit bg opn only marks hc hi
open Go.ChangeShapes Go.WideShapes Go.ChangeAt Go.RowKit
set_option linter.unusedVariables false

set_option maxHeartbeats 400000 in
theorem szN_any (p q : Int) (A : Option Addr) (n c : Nat) (left : Int) (w : World) (hl0 : -1 ≤ left) (hl : left ≤ 1048576) (hn : n ≤ maxLen) :
    Calls Try.prog 71 #[.agg #[.int .i64 p, .int .i64 q, .slice A n c], .int .i64 left] w (szP n left w) := by
  go_enter Try.func71, Try.ntmps71
  go_wp2_with fail
  refine (szI_any A n c left _ hl0 hl hn).mono ?_
  rintro e w1 ⟨r, rfl, hr, hr1, hr2, hb⟩
  have hb2 := ((Below.refl w.heap.size w).alloc (Nat.le_refl _) (.cells #[.int .i64 p, .int .i64 q, .slice A n c] 94)).trans (hb.mono (by simp))
  have HR := Lib.hid hr
  clear hb hr
  by_cases hneg : r < 0
  · go_wp2_with fail
    go_ret
    exact ⟨-1, rfl, .inl (by omega), by omega, by omega, hb2⟩
  · have hneg' : 0 ≤ r := by omega
    go_wp2_with fail
    go_ret
    exact ⟨r, rfl, HR.out, hr1, hr2, hb2⟩

theorem node_info : (Try.prog.info? 103).map (fun i => (i.zero, i.size, i.bytes)) = some (some (.agg #[.int .i64 0, .int .i64 0, .slice none 0 0]), 3, 40) := by kernel_rfl

set_option maxHeartbeats 400000 in
theorem toN_any (p q : Int) (A : Option Addr) (n c : Nat) (zs : List Int) (w : World) (h : IntsAt w w.heap.size A n zs) (hn : n ≤ 1048576) :
    Calls Try.prog 81 #[.agg #[.int .i64 p, .int .i64 q, .slice A n c]] w fun e w' => ∃ g, e = .returned (.agg #[.int .i64 p, .int .i64 q, .slice (some ⟨g, 0, none⟩) n n]) ∧ w.heap.size ≤ g ∧ w'.rowIs g 3 n (iat zs) ∧ Below w.heap.size w w' := by
  go_enter Try.func81, Try.ntmps81
  go_wp2_with fail
  refine (toIS_any A n c zs _ ((IntsAt.below h ((((Below.refl _ _).alloc (Nat.le_refl _) _).alloc (by simp) _).alloc (by simp; omega) _)).wide (by simp; omega)) hn).mono ?_
  rintro e w1 ⟨rfl, hrow, hb⟩
  have hb2 := ((((Below.refl w.heap.size w).alloc (Nat.le_refl _) _).alloc (by simp) _).alloc (by simp; omega) _).trans (hb.mono (by simp; omega))
  have r3 := (row_new ((w.alloc (.cells #[.int .i64 p, .int .i64 q, .slice A n c] 94)).alloc (.cells #[.int .i64 0, .int .i64 0, .slice none 0 0] 103)) #[.int .i64 p, .int .i64 q, .slice none 0 0] 103 3 rfl).of_block (hb.block _ (by simp))
  have r2 := ((row_new (w.alloc (.cells #[.int .i64 p, .int .i64 q, .slice A n c] 94)) #[.int .i64 0, .int .i64 0, .slice none 0 0] 103 3 rfl).alloc (.cells #[.int .i64 p, .int .i64 q, .slice none 0 0] 103)).of_block (hb.block _ (by simp))
  simp only [World.size_alloc] at r3 r2 hrow
  have x30 : w1.cell? ⟨w.heap.size + 1 + 1, 0, none⟩ = some (.int .i64 p) := r3.cell (by omega)
  have x31 : w1.cell? ⟨w.heap.size + 1 + 1, 1, none⟩ = some (.int .i64 q) := r3.cell (by omega)
  have x32 : w1.cell? ⟨w.heap.size + 1 + 1, 2, none⟩ = some (.slice none 0 0) := r3.cell (by omega)
  have y30 := r3.frozen 0
  have y31 := r3.frozen 1
  have y32 := r3.frozen 2
  have x20 : w1.cell? ⟨w.heap.size + 1, 0, none⟩ = some (.int .i64 0) := r2.cell (by omega)
  have x21 : w1.cell? ⟨w.heap.size + 1, 1, none⟩ = some (.int .i64 0) := r2.cell (by omega)
  have x22 : w1.cell? ⟨w.heap.size + 1, 2, none⟩ = some (.slice none 0 0) := r2.cell (by omega)
  have y20 := r2.frozen 0
  have y21 := r2.frozen 1
  have y22 := r2.frozen 2
  have HR := Lib.hid hrow
  have HB := Lib.hid hb2
  clear hrow hb2 hb r3 r2
  go_wp2_with fail
  refine bodyPost_ret (v := .agg #[.int .i64 p, .int .i64 q, .slice (some ⟨w.heap.size + 1 + 1 + 1, 0, none⟩) n n]) (by simp [results, Try.results81, go_sem, x20, x21, x22]) rfl ⟨_, rfl, by omega, ?_, ?_⟩
  · refine World.rowIs.setOther (World.rowIs.setOther (World.rowIs.setOther (World.rowIs.setOther HR.out (a := ⟨w.heap.size + 1 + 1, 2, none⟩) ?_ _) (a := ⟨w.heap.size + 1, 0, none⟩) ?_ _) (a := ⟨w.heap.size + 1, 1, none⟩) ?_ _) (a := ⟨w.heap.size + 1, 2, none⟩) ?_ _ <;> (dsimp only; omega)
  · exact (((HB.out.setCell (p := ⟨w.heap.size + 1 + 1, 2, none⟩) (by dsimp only; omega) _).setCell (p := ⟨w.heap.size + 1, 0, none⟩) (by dsimp only; omega) _).setCell (p := ⟨w.heap.size + 1, 1, none⟩) (by dsimp only; omega) _).setCell (p := ⟨w.heap.size + 1, 2, none⟩) (by dsimp only; omega) _

set_option maxHeartbeats 400000 in
theorem eqN_any (p q : Int) (A A' : Option Addr) (n c c' : Nat) (zs : List Int) (w : World) (B B' : Nat) (h : IntsAt w B A n zs) (h' : IntsAt w B' A' n zs) (hB : B ≤ w.heap.size) (hB' : B' ≤ w.heap.size) (hn : n ≤ maxLen) :
    Calls Try.prog 95 #[.agg #[.int .i64 p, .int .i64 q, .slice A n c], .agg #[.int .i64 p, .int .i64 q, .slice A' n c']] w fun e w' => e = .returned (.bool true) ∧ Below w.heap.size w w' := by
  have hb0 : Below w.heap.size w ((w.alloc (.cells #[.int .i64 p, .int .i64 q, .slice A n c] 103)).alloc (.cells #[.int .i64 p, .int .i64 q, .slice A' n c'] 103)) := ((Below.refl w.heap.size w).alloc (Nat.le_refl _) _).alloc (by simp) _
  have HB := Lib.hid hb0
  clear hb0
  go_enter Try.func95, Try.ntmps95
  go_wp2_with fail
  refine (eqIS_any A A' n c c' zs _ w.heap.size w.heap.size ((h.wide hB).below HB.out) ((h'.wide hB').below HB.out) hn).mono ?_
  rintro e w1 ⟨rfl, hd⟩
  have hb2 := HB.out.trans (hd.below _)
  clear hd
  go_wp2_with fail
  go_ret
  exact ⟨rfl, hb2⟩

set_option maxRecDepth 20000 in
set_option maxHeartbeats 800000 in
theorem eqNS_any (A A' : Option Addr) (n c c' : Nat) (cs : List Nd) (w : World) (B B' : Nat) (h : NdsAt w B A n cs) (h' : NdsAt w B' A' n cs) (hB : B ≤ w.heap.size) (hB' : B' ≤ w.heap.size) (hn : n ≤ maxLen) (hw : ∀ x ∈ cs, x.links.length ≤ maxLen) :
    Calls Try.prog 45 #[.slice A n c, .slice A' n c'] w fun e w' => e = .returned (.bool true) ∧ Below w.heap.size w w' := by
  have HW := Lib.hid hw
  clear hw
  unfold maxLen at hn
  go_enter Try.func45, Try.ntmps45
  go_wp2_with fail
  go_loopw [5] (fun i wr => ∃ k : Nat, k ≤ n ∧ i = .int .i64 k ∧ Below w.heap.size w wr) (fun i _ => n - (intOf i).toNat)
  case atStart => exact ⟨0, Nat.zero_le _, rfl, Below.refl _ _⟩
  case round =>
    obtain ⟨k, hk, rfl, hb⟩ := hrel
    by_cases hlt : k < n
    · obtain ⟨b, off, x, rfl, hbb, hx, c0, c1, L, m, cap, c2, hi⟩ := h.get hlt
      obtain ⟨b', off', x', rfl, hbb', hx', c0', c1', L', m', cap', c2', hi'⟩ := h'.get hlt
      rw [hx] at hx'
      injection hx' with e
      subst e
      obtain rfl : m = m' := hi.len.symm.trans hi'.len
      have hml : m ≤ maxLen := by have := HW.out x (List.mem_of_getElem? hx); have := hi.len; omega
      have d0 := (hb.cell (p := ⟨b, off + k * 3, none⟩) (show b < w.heap.size by omega)).trans c0
      have d1 := (hb.cell (p := ⟨b, off + k * 3 + 1, none⟩) (show b < w.heap.size by omega)).trans c1
      have d2 := (hb.cell (p := ⟨b, off + k * 3 + 2, none⟩) (show b < w.heap.size by omega)).trans c2
      have d0' := (hb.cell (p := ⟨b', off' + k * 3, none⟩) (show b' < w.heap.size by omega)).trans c0'
      have d1' := (hb.cell (p := ⟨b', off' + k * 3 + 1, none⟩) (show b' < w.heap.size by omega)).trans c1'
      have d2' := (hb.cell (p := ⟨b', off' + k * 3 + 2, none⟩) (show b' < w.heap.size by omega)).trans c2'
      clear hx c0 c1 c2 c0' c1' c2'
      go_wp2_with fail
      go_still_tail 8, (by kernel_rfl)
      change wpList _ _ _ _ _ wr.drew
      obtain ⟨w2, hw2⟩ : ∃ w2, wr.drew = w2 := ⟨_, rfl⟩
      have hb2 : Below w.heap.size w w2 := hw2 ▸ hb.drew
      rw [hw2]
      clear hw2
      go_wp2_with fail
      refine (eqN_any _ _ _ _ _ _ _ x.links _ w.heap.size w.heap.size ((hi.wide hB).below hb2) ((hi'.wide hB').below hb2) hb2.size hb2.size hml).mono ?_
      rintro e w3 ⟨rfl, hb3⟩
      have hb3' := hb2.trans (hb3.mono hb2.size)
      clear hb3
      go_wp2_with fail
      go_roundw
      case rel => exact ⟨k + 1, by omega, by go_num, hb3'⟩
      case measure => simp [intOf]; omega
    · go_wp2_with fail
      go_ret
      exact ⟨rfl, hb⟩

/-- how much nodes take -/
def ndsWt (cs : List Nd) : Nat := cs.length + sumBy (fun c => c.links.length) cs

set_option maxHeartbeats 800000 in
theorem szNS_any (A : Option Addr) (n c : Nat) (cs : List Nd) (left : Int) (w : World) (B : Nat) (h : NdsAt w B A n cs) (hB : B ≤ w.heap.size) (hl0 : -1 ≤ left) (hl : left ≤ 1048576) (hn : n ≤ maxLen) (hw : ∀ x ∈ cs, NdW x) :
    Calls Try.prog 25 #[.slice A n c, .int .i64 left] w (szP (ndsWt cs) left w) := by
  have HL := Lib.hid h.1
  have HW := Lib.hid hw
  clear hw
  unfold maxLen at hn
  by_cases hneg : left - (n : Int) < 0
  · go_enter Try.func25, Try.ntmps25
    go_wp2_with fail
    go_ret
    exact ⟨-1, rfl, .inl (by omega), by omega, by omega, Below.refl _ _⟩
  · have hneg' : ¬ (left - (n : Int) < 0) := hneg
    go_enter Try.func25, Try.ntmps25
    go_wp2_with fail
    go_loopw [1, 5] (fun l i wr => ∃ k : Nat, k ≤ n ∧ i = .int .i64 k ∧ l = .int .i64 (left - n - sumBy (fun c : Nd => c.links.length) (cs.take k)) ∧ 0 ≤ left - n - sumBy (fun c : Nd => c.links.length) (cs.take k) ∧ Below w.heap.size w wr) (fun _ i _ => n - (intOf i).toNat)
    case atStart => exact ⟨0, Nat.zero_le _, rfl, by simp [sumBy], by simp [sumBy]; omega, Below.refl _ _⟩
    case round =>
      obtain ⟨k, hk, rfl, rfl, h0, hb⟩ := hrel
      by_cases hlt : k < n
      · obtain ⟨b, off, x, rfl, hbb, hx, c0, c1, L, m, cap, c2, hi⟩ := h.get hlt
        have d0 := (hb.cell (p := ⟨b, off + k * 3, none⟩) (show b < w.heap.size by omega)).trans c0
        have d1 := (hb.cell (p := ⟨b, off + k * 3 + 1, none⟩) (show b < w.heap.size by omega)).trans c1
        have d2 := (hb.cell (p := ⟨b, off + k * 3 + 2, none⟩) (show b < w.heap.size by omega)).trans c2
        have hlen := hi.len
        have hxs : m ≤ maxLen := by have := (HW.out x (List.mem_of_getElem? hx)).2.2.1; omega
        have HT := Lib.hid (sumBy_snoc (fun c : Nd => c.links.length) hx)
        have HLn := Lib.hid hlen
        obtain ⟨T, hT⟩ : ∃ T, sumBy (fun c : Nd => c.links.length) (cs.take k) = T := ⟨_, rfl⟩
        have HTe := Lib.hid hT
        rw [hT] at h0 ⊢
        clear hx c0 c1 c2 hT hlen
        go_wp2_with fail
        refine (szN_any _ _ _ _ _ (left - (n : Int) - T) wr (by omega) (by omega) hxs).mono ?_
        rintro e w1 ⟨r, rfl, hr, hr1, hr2, hb1⟩
        have hb2 := hb.trans (hb1.mono hb.size)
        have HR := Lib.hid hr
        clear hb1 hr
        by_cases hneg2 : r < 0
        · go_wp2_with fail
          go_ret
          exact ⟨-1, rfl, .inl (by omega), by omega, by omega, hb2⟩
        · have hneg2' : 0 ≤ r := by omega
          have hre : r = left - (n : Int) - T - m := by have := HR.out; omega
          have HRe := Lib.hid hre
          clear hre
          go_wp2_with fail
          go_roundw
          case rel => exact ⟨k + 1, by omega, by go_num, by rw [HT.out, HTe.out, HRe.out, HLn.out]; go_num, by rw [HT.out, HTe.out, HLn.out]; have := HRe.out; omega, hb2⟩
          case measure => simp [intOf]; omega
      · go_wp2_with fail
        go_ret
        have hkn : k = n := by omega
        subst hkn
        refine ⟨left - k - sumBy (fun c : Nd => c.links.length) (cs.take k), rfl, .inr ?_, by omega, by omega, hb⟩
        rw [List.take_of_length_le (by rw [HL.out]; omega)]
        unfold ndsWt
        rw [HL.out]
        omega

/-- nodes in memory of the call's own -/
def NdsOwn (w : World) (lo hi : Nat) (A : Option Addr) (n : Nat) (ns : List Nd) : Prop :=
  ns.length = n ∧ ∃ g f, A = some ⟨g, 0, none⟩ ∧ lo ≤ g ∧ g < hi ∧ w.rowIs g 103 (n * 3) f ∧ ∀ (k : Nat) x, ns[k]? = some x → f (k * 3) = .int .i64 x.control ∧ f (k * 3 + 1) = .int .i64 x.parent ∧
    ∃ b, f (k * 3 + 2) = .slice (some ⟨b, 0, none⟩) x.links.length x.links.length ∧ g < b ∧ b < hi ∧ w.rowIs b 3 x.links.length (iat x.links)
theorem NdsOwn.at {w : World} {lo hi : Nat} {A : Option Addr} {n : Nat} {cs : List Nd} (h : NdsOwn w lo hi A n cs) : NdsAt w hi A n cs := by
  obtain ⟨hl, g, f, rfl, h1, h2, hr, hf⟩ := h
  refine ⟨hl, fun _ => ⟨g, 0, rfl, h2, fun k c hk => ?_⟩⟩
  have hkn : k < n := by have := (List.getElem?_eq_some_iff.1 hk).1; omega
  obtain ⟨e0, e1, b, e2, hb1, hb2, hbr⟩ := hf k c hk
  rw [Nat.zero_add]
  exact ⟨by rw [hr.cell (show k * 3 < n * 3 by omega), e0], by rw [hr.cell (show k * 3 + 1 < n * 3 by omega), e1], _, _, _, by rw [hr.cell (show k * 3 + 2 < n * 3 by omega), e2], ints_row hbr (Nat.le_refl _) hb2 rfl (fun _ _ => rfl)⟩
theorem NdsOwn.below {w w' : World} {lo hi B : Nat} {A : Option Addr} {n : Nat} {cs : List Nd} (h : NdsOwn w lo hi A n cs) (hb : Below B w w') (hB : hi ≤ B) : NdsOwn w' lo hi A n cs := by
  obtain ⟨hl, g, f, rfl, h1, h2, hr, hf⟩ := h
  refine ⟨hl, g, f, rfl, h1, h2, hr.of_block (hb.block g (by omega)), fun k x hk => ?_⟩
  obtain ⟨e0, e1, b, e2, hb1, hb2, hbr⟩ := hf k x hk
  exact ⟨e0, e1, b, e2, hb1, hb2, hbr.of_block (hb.block b (by omega))⟩
theorem NdsOwn.wide {w : World} {lo hi lo' hi' : Nat} {A : Option Addr} {n : Nat} {cs : List Nd} (h : NdsOwn w lo hi A n cs) (h1 : lo' ≤ lo) (h2 : hi ≤ hi') : NdsOwn w lo' hi' A n cs := by
  obtain ⟨hl, g, f, rfl, a1, a2, hr, hf⟩ := h
  refine ⟨hl, g, f, rfl, by omega, by omega, hr, fun k x hk => ?_⟩
  obtain ⟨e0, e1, b, e2, hb1, hb2, hbr⟩ := hf k x hk
  exact ⟨e0, e1, b, e2, hb1, by omega, hbr⟩

/-- the first k nodes stand in row g -/
def NdsK (wr : World) (g : Nat) (n k : Nat) (cs : List Nd) : Prop := ∃ f, wr.rowIs g 103 (n * 3) f ∧ ∀ (j : Nat) x, j < k → cs[j]? = some x → f (j * 3) = .int .i64 x.control ∧ f (j * 3 + 1) = .int .i64 x.parent ∧
    ∃ b, f (j * 3 + 2) = .slice (some ⟨b, 0, none⟩) x.links.length x.links.length ∧ g < b ∧ b < wr.heap.size ∧ wr.rowIs b 3 x.links.length (iat x.links)
theorem ndsK_next {wr w1 : World} {g n k : Nat} {cs : List Nd} {x : Nd} {b : Nat} (h : NdsK wr g n k cs) (hx : cs[k]? = some x) (hb : Below wr.heap.size wr w1) (hg : g < wr.heap.size) (hbb : wr.heap.size ≤ b) (hr : w1.rowIs b 3 x.links.length (iat x.links)) :
    NdsK (((w1.setCell ⟨g, k * 3, none⟩ (.int .i64 x.control)).setCell ⟨g, k * 3 + 1, none⟩ (.int .i64 x.parent)).setCell ⟨g, k * 3 + 2, none⟩ (.slice (some ⟨b, 0, none⟩) x.links.length x.links.length)) g n (k + 1) cs := by
  obtain ⟨f, hrow, hf⟩ := h
  have hsz : (((w1.setCell ⟨g, k * 3, none⟩ (.int .i64 x.control)).setCell ⟨g, k * 3 + 1, none⟩ (.int .i64 x.parent)).setCell ⟨g, k * 3 + 2, none⟩ (.slice (some ⟨b, 0, none⟩) x.links.length x.links.length)).heap.size = w1.heap.size := by simp [World.setCell]
  have hkeep : ∀ {b' m : Nat} {f' : Nat → Value}, b' ≠ g → w1.rowIs b' 3 m f' → (((w1.setCell ⟨g, k * 3, none⟩ (.int .i64 x.control)).setCell ⟨g, k * 3 + 1, none⟩ (.int .i64 x.parent)).setCell ⟨g, k * 3 + 2, none⟩ (.slice (some ⟨b, 0, none⟩) x.links.length x.links.length)).rowIs b' 3 m f' := fun hne hr' =>
    ((hr'.setOther (a := ⟨g, k * 3, none⟩) hne _).setOther (a := ⟨g, k * 3 + 1, none⟩) hne _).setOther (a := ⟨g, k * 3 + 2, none⟩) hne _
  have hlt := hr.lt
  refine ⟨_, put3_row (hrow.of_block (hb.block g hg)) k _ _ _, fun j y hj hy => ?_⟩
  by_cases e : j = k
  · subst e
    rw [hx] at hy
    injection hy with hy
    subst hy
    obtain ⟨e0, e1, e2⟩ := put3_new (f := f) (k := j) (a := .int .i64 x.control) (b := .int .i64 x.parent) (c := .slice (some ⟨b, 0, none⟩) x.links.length x.links.length)
    exact ⟨e0, e1, b, e2, by omega, by omega, hkeep (by omega) hr⟩
  · obtain ⟨p0, p1, p2⟩ := put3_old (f := f) (k := k) (j := j) (a := .int .i64 x.control) (b := .int .i64 x.parent) (c := .slice (some ⟨b, 0, none⟩) x.links.length x.links.length) (by omega)
    obtain ⟨e0, e1, b', e2, h1, h2, h3⟩ := hf j y (by omega) hy
    rw [p0, p1, p2]
    have := hb.size
    exact ⟨e0, e1, b', e2, h1, by omega, hkeep (by omega) (h3.of_block (hb.block b' h2))⟩

set_option maxHeartbeats 800000 in
theorem toNS_any (A : Option Addr) (n c : Nat) (cs : List Nd) (w : World) (h : NdsAt w w.heap.size A n cs) (hn : n ≤ 1048576) (hw : ∀ x ∈ cs, x.links.length ≤ 1048576) :
    Calls Try.prog 33 #[.slice A n c] w fun e w' => ∃ g, e = .returned (.slice (some ⟨g, 0, none⟩) n n) ∧ NdsOwn w' w.heap.size w'.heap.size (some ⟨g, 0, none⟩) n cs ∧ Below w.heap.size w w' := by
  have HL := Lib.hid h.1
  have HW := Lib.hid hw
  clear hw
  have hmk : ∀ W : World, (Instr.makeSlice 31 (.int .i64 (n : Int)) (.int .i64 (n : Int))).run Try.prog W = .ok (.slice (some ⟨W.heap.size, 0, none⟩) n n) (W.alloc (.cells (madeCells #[.int .i64 0, .int .i64 0, .slice none 0 0] (n * 3)) 103)) := by
    intro W
    obtain ⟨i0, hi, hz0, hz1, hz2⟩ := info_parts node_info
    have hr := run_make (P := Try.prog) W 31 103 i0 _ Try.underlying31 hi hz0 .i64 .i64 n n (by omega) (Int.le_refl _) (by rw [hz2]; omega) (by omega)
    simp only [Int.toNat_natCast, hz1] at hr
    exact hr
  go_enter Try.func33, Try.ntmps33
  go_wp2_with fail
  clear hmk
  go_loopw [4] (fun i wr => ∃ k : Nat, k ≤ n ∧ i = .int .i64 k ∧ NdsK wr w.heap.size n k cs ∧ Below w.heap.size w wr ∧ w.heap.size < wr.heap.size) (fun i _ => n - (intOf i).toNat)
  case atStart => exact ⟨0, Nat.zero_le _, rfl, ⟨_, row_new w _ _ _ (size_madeCells _ _), fun j c hj => absurd hj (Nat.not_lt_zero j)⟩, (Below.refl _ _).alloc (Nat.le_refl _) _, by simp⟩
  case round =>
    obtain ⟨k, hk, rfl, hkk, hbel, hlt0⟩ := hrel
    by_cases hlt : k < n
    · obtain ⟨b, off, x, rfl, hbb, hx, c0, c1, L, m, cap, c2, hi⟩ := h.get hlt
      have d0 := (hbel.cell (p := ⟨b, off + k * 3, none⟩) hbb).trans c0
      have d1 := (hbel.cell (p := ⟨b, off + k * 3 + 1, none⟩) hbb).trans c1
      have d2 := (hbel.cell (p := ⟨b, off + k * 3 + 2, none⟩) hbb).trans c2
      have hlen := hi.len
      have hml : m ≤ 1048576 := by have := HW.out x (List.mem_of_getElem? hx); omega
      subst hlen
      have HX := Lib.hid hx
      have HK := Lib.hid hkk
      obtain ⟨f, hrow, -⟩ := hkk
      clear hx c0 c1 c2
      go_wp2_with fail
      refine (toN_any _ _ _ _ _ x.links _ ((hi.below hbel).wide hbel.size) hml).mono ?_
      rintro e w1 ⟨g1, rfl, hg1, hr1, hb1⟩
      have hbel1 := hbel.trans (hb1.mono hbel.size)
      have hrow1 := hrow.of_block (hb1.block _ hlt0)
      have z0 := hrow1.cell (show k * 3 < n * 3 by omega)
      have z1 := hrow1.cell (show k * 3 + 1 < n * 3 by omega)
      have z2 := hrow1.cell (show k * 3 + 2 < n * 3 by omega)
      have f0 := hrow1.frozen (k * 3)
      have f1 := hrow1.frozen (k * 3 + 1)
      have f2 := hrow1.frozen (k * 3 + 2)
      have hs1 := hb1.size
      have HN := Lib.hid (ndsK_next HK.out HX.out hb1 hlt0 hg1 hr1)
      have HB := Lib.hid (put3_below hbel1 (Nat.le_refl _) k (.int .i64 x.control) (.int .i64 x.parent) (.slice (some ⟨g1, 0, none⟩) x.links.length x.links.length))
      clear hb1 hbel1 hrow hrow1 hbel hr1
      go_wp2_with fail
      go_roundw
      case rel => exact ⟨k + 1, by omega, by go_num, HN.out, HB.out, by simp [World.setCell]; omega⟩
      case measure => simp [intOf]; omega
    · go_wp2_with fail
      go_ret
      obtain rfl : k = n := by omega
      obtain ⟨f, hrow, hf⟩ := hkk
      exact ⟨w.heap.size, rfl, ⟨HL.out, w.heap.size, f, rfl, Nat.le_refl _, hlt0, hrow, fun j x hj => hf j x (by have := (List.getElem?_eq_some_iff.1 hj).1; rw [HL.out] at this; exact this) hj⟩, hbel⟩

set_option maxHeartbeats 1600000 in
theorem markNS_any (A : Option Addr) (n c : Nat) (cs : List Nd) (k : Int) (w : World) (lo hi : Nat) (h : NdsOwn w lo hi A n cs) (hhi : hi ≤ w.heap.size) (h0 : 0 < k) (h1 : k ≤ 3200000) (hwt : ndsWt cs ≤ 1048576) :
    Calls Try.prog 51 #[.slice A n c, .int .i64 k] w fun e w' => ∃ r : Int, e = .returned (.int .i64 r) ∧ r = k + 2 * n + sumBy (fun c : Nd => c.links.length) cs ∧ Only lo hi w w' := by
  obtain ⟨hl, g, f, rfl, hg1, hg2, hrow, hf⟩ := h
  have HL := Lib.hid hl
  have HF := Lib.hid hf
  have hn : n ≤ 1048576 := by unfold ndsWt at hwt; omega
  have hwt2 : sumBy (fun c : Nd => c.links.length) cs ≤ 1048576 := by unfold ndsWt at hwt; omega
  have HWt := Lib.hid hwt2
  clear hl hf hwt hwt2
  go_enter Try.func51, Try.ntmps51
  go_wp2_with fail
  go_loopw [1, 5] (fun q i wr => ∃ j : Nat, j ≤ n ∧ i = .int .i64 j ∧ q = .int .i64 (k + 2 * j + sumBy (fun c : Nd => c.links.length) (cs.take j)) ∧ Only lo hi w wr ∧ (∃ f', wr.rowIs g 103 (n * 3) f' ∧ ∀ j', j' < n → f' (j' * 3 + 2) = f (j' * 3 + 2))) (fun _ i _ => n - (intOf i).toNat)
  case atStart => exact ⟨0, Nat.zero_le _, rfl, by simp [sumBy], Only.refl _ _ _, f, hrow, fun _ _ => rfl⟩
  case round =>
    obtain ⟨j, hj, rfl, rfl, hon, f', hrow', hhd⟩ := hrel
    by_cases hlt : j < n
    · have hx : cs[j]? = some (cs[j]'(by rw [HL.out]; exact hlt)) := List.getElem?_eq_getElem _
      obtain ⟨x, hxe⟩ : ∃ x, cs[j]'(by rw [HL.out]; exact hlt) = x := ⟨_, rfl⟩
      rw [hxe] at hx
      obtain ⟨e0, e1, b, e2, hb1, hb2, hbr⟩ := HF.out j x hx
      have HS := Lib.hid (sumBy_snoc (fun c : Nd => c.links.length) hx)
      have hT1 := sumBy_take (fun c : Nd => c.links.length) cs j
      have hT2 := sumBy_take (fun c : Nd => c.links.length) cs (j + 1)
      have hlx : x.links.length ≤ 1048576 := by have := sumBy_mem (fun c : Nd => c.links.length) (List.mem_of_getElem? hx); have := HWt.out; omega
      obtain ⟨T, hT⟩ : ∃ T, sumBy (fun c : Nd => c.links.length) (cs.take j) = T := ⟨_, rfl⟩
      have HTe := Lib.hid hT
      have hTb : T ≤ 1048576 := by have := HWt.out; omega
      rw [hT]
      have z0 := hrow'.cell (show j * 3 < n * 3 by omega)
      have z1 := hrow'.cell (show j * 3 + 1 < n * 3 by omega)
      have z2 : wr.cell? ⟨g, j * 3 + 2, none⟩ = some (.slice (some ⟨b, 0, none⟩) x.links.length x.links.length) := (hrow'.cell (show j * 3 + 2 < n * 3 by omega)).trans (by rw [hhd j hlt, e2])
      have f0 := hrow'.frozen (j * 3)
      have f1 := hrow'.frozen (j * 3 + 1)
      have HHd := Lib.hid hhd
      have hrow2 : ((wr.setCell ⟨g, j * 3, none⟩ (.int .i64 (k + 2 * j + T))).setCell ⟨g, j * 3 + 1, none⟩ (.int .i64 (k + 2 * j + T + 1))).rowIs g 103 (n * 3) (fun i => if i = j * 3 + 1 then .int .i64 (k + 2 * j + T + 1) else if i = j * 3 then .int .i64 (k + 2 * j + T) else f' i) := (hrow'.set (j * 3) _).set (j * 3 + 1) _
      have hon2 : Only lo hi w ((wr.setCell ⟨g, j * 3, none⟩ (.int .i64 (k + 2 * j + T))).setCell ⟨g, j * 3 + 1, none⟩ (.int .i64 (k + 2 * j + T + 1))) := (hon.trans (Only.set wr hg1 hg2 (j * 3) _)).trans (Only.set _ hg1 hg2 (j * 3 + 1) _)
      obtain ⟨fb, hbr2⟩ := hon2.rows b _ _ ⟨_, hbr⟩
      have HR2 := Lib.hid hrow2
      have HO2 := Lib.hid hon2
      have HBR2 := Lib.hid hbr2
      clear hx hxe e0 e1 e2 hbr hrow2 hon2 hbr2 hT hT1 hT2 hhd hon hrow'
      go_wp2_with fail
      refine (markI_any b x.links.length x.links.length fb (k + 2 * j + T + 1 + 1) _ HBR2.out (Nat.le_refl _) (by omega) (by omega) (by omega)).mono ?_
      rintro e w2 ⟨rfl, hrm, hgm⟩
      have HO3 := Lib.hid (HO2.out.trans (Only.of_grown hgm HBR2.out hrm (by omega) hb2))
      have HR3 := Lib.hid (HR2.out.of_block (hgm.block g HR2.out.lt (fun e => by injection e with e; omega)))
      clear hrm hgm
      go_wp2_with fail
      go_roundw
      case rel =>
        refine ⟨j + 1, by omega, by go_num, by rw [HS.out, HTe.out]; go_num, HO3.out, _, HR3.out, fun j' hj' => ?_⟩
        show (if _ then _ else if _ then _ else _) = _
        rw [if_neg (by omega), if_neg (by omega)]
        exact HHd.out j' hj'
      case measure => simp [intOf]; omega
    · obtain rfl : j = n := by omega
      have hfull : cs.take j = cs := List.take_of_length_le (by rw [HL.out]; omega)
      have HFl := Lib.hid hfull
      clear hfull
      go_wp2_with fail
      go_ret
      exact ⟨_, rfl, by rw [HFl.out], hon⟩
end Go.Proofs.Ytifialdkjnmfoab.hn

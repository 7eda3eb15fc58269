/- Labelled systems in memory: where they lie; a law's argument that is one; the laws' size, copy and comparison of them. -/
import Derived.Test.YtlpgldejmdiceaaIss
import Derived.Test.YtlpgldejmdiceaaSyi
namespace Go.Proofs.Ytlpgldejmdiceaa.lab
open kit bg sg opn strs only hb sig isig un over gn nm inn ht gd im pt marks eqs hc hi hw hn rs br bm bw cf lf ib isa lawb lw cl bgs cz syx sya syh syi iss
open Go.RowKit Go.ChangeShapes Go.WideShapes Go.ChangeAt Go.Deep
set_option linter.unusedVariables false
set_option linter.unusedSimpArgs false
structure Lab where
  shows : List (List Int)
  steps : List Tri
def LabAt (w : World) (B : Nat) (v : Value) (x : Lab) : Prop :=
  ∃ A1 n1 c1 A2 n2 c2, v = .agg #[.slice A1 n1 c1, .slice A2 n2 c2] ∧ IssAt w B A1 n1 x.shows ∧ TriAt w B A2 n2 x.steps
theorem LabAt.below {w w' : World} {B : Nat} {v : Value} {x : Lab} (h : LabAt w B v x) (hb : Below B w w') : LabAt w' B v x := by
  obtain ⟨A1, n1, c1, A2, n2, c2, e, h1, h2⟩ := h
  exact ⟨_, _, _, _, _, _, e, h1.below hb, h2.below hb⟩
theorem LabAt.wide {w : World} {B B' : Nat} {v : Value} {x : Lab} (h : LabAt w B v x) (hB : B ≤ B') : LabAt w B' v x := by
  obtain ⟨A1, n1, c1, A2, n2, c2, e, h1, h2⟩ := h
  exact ⟨_, _, _, _, _, _, e, h1.wide hB, h2.wide hB⟩
theorem LabAt.on {w w' : World} {v : Value} {x : Lab} (h : LabAt w w.heap.size v x) (hb : Below w.heap.size w w') : LabAt w' w'.heap.size v x := (h.below hb).wide hb.size
def LabW (x : Lab) : Prop := IssW x.shows ∧ TriW x.steps
def labWt (x : Lab) : Nat := issWt x.shows + x.steps.length
theorem iss_len {bs : List (List Int)} {b : List Int} (h : issWt bs ≤ 1048576) (hb : b ∈ bs) : b.length ≤ 1048576 := by
  unfold issWt at h
  have := sumBy_mem List.length hb
  omega
/-- a Labelled system in memory of its own -/
def LabOwn (w : World) (lo : Nat) (v : Value) (x : Lab) : Prop :=
  ∃ g1 g2, v = .agg #[.slice (some ⟨g1, 0, none⟩) x.shows.length x.shows.length, .slice (some ⟨g2, 0, none⟩) x.steps.length x.steps.length] ∧ lo ≤ g1 ∧ g1 < g2 ∧ g2 < w.heap.size ∧
    (∃ (f : Nat → Value) (L : Nat → Nat), w.rowIs g1 38 x.shows.length f ∧ (∀ j, j < x.shows.length → g1 < L j ∧ L j < g2) ∧ (∀ i j, i < j → j < x.shows.length → L i < L j) ∧ ∀ (j : Nat) b, j < x.shows.length → x.shows[j]? = some b → f j = .slice (some ⟨L j, 0, none⟩) b.length b.length ∧ w.rowIs (L j) 3 b.length (iat b)) ∧ w.rowIs g2 76 (x.steps.length * 3) (trc x.steps)
theorem LabOwn.at {w : World} {lo : Nat} {v : Value} {x : Lab} (h : LabOwn w lo v x) : LabAt w w.heap.size v x := by
  obtain ⟨g1, g2, rfl, h1, h2, h3, ⟨f, L, hf, hL, hM, hb⟩, hr⟩ := h
  have hk : IssK w g1 x.shows.length x.shows.length x.shows := ⟨f, L, hf, fun j hj => ⟨(hL j hj).1, by have := (hL j hj).2; omega⟩, hM, hb⟩
  exact ⟨_, _, _, _, _, _, rfl, hk.at rfl (by omega), tri_row hr (Nat.le_refl _)⟩
theorem cells2L : Try.prog.cellsOf 64 = 2 := by kernel_rfl
theorem cellsIs : Try.prog.cellsOf 38 = 1 := by kernel_rfl
theorem cellsIss : Try.prog.cellsOf 62 = 1 := by kernel_rfl
set_option maxRecDepth 100000 in
theorem open_issc {H : Type} {enc : TypeId × Value → H} {W : World} {fuel : Nat} {v : Value} {y : DataW H × List MemPlace}
    (h : DataW.trod enc Try.prog W 0 (fun _ => true) true fuel 62 [v] = some y) (hlt : ∀ x ∈ y.2, x.block < W.heap.size) : ∃ A n c bs, v = .slice A n c ∧ IssAt W W.heap.size A n bs ∧ IssW bs := by
  obtain ⟨A, n, c, rfl, hn, hr⟩ := rows_cuts Try.underlying62 cellsIs (by decide) h hlt
  by_cases hz : 0 < n
  · obtain ⟨b, off, rfl, hb, hi⟩ := hr hz
    obtain ⟨gs, hl, hgs⟩ := list_of (α := List Int) (n := n) (Q := fun k x => (∃ A1 n1 c1, W.cell? ⟨b, off + k, none⟩ = some (.slice A1 n1 c1) ∧ IntsAt W W.heap.size A1 n1 x) ∧ x.length ≤ maxLen ∧ ∀ z ∈ x, (Lit.int .i64 z).wf = true) (fun i hin => by
      obtain ⟨m, cs, hcl, hat, z, hz2, hzl⟩ := hi i hin
      match cs, hcl with
      | [a0], _ =>
        obtain ⟨A1, n1, c1, zs, rfl, h1, b1, w1⟩ := ints_of Try.underlying38 Try.underlying3 (by kernel_rfl) hz2 hzl
        exact ⟨zs, ⟨A1, n1, c1, by simpa using hat 0 _ rfl, h1⟩, by rw [h1.len]; exact b1, w1⟩)
    refine ⟨_, n, c, gs, rfl, ⟨hl, fun _ => ⟨b, off, rfl, hb, fun k x hk => (hgs k x hk).1⟩⟩, by omega, fun x hx => ?_⟩
    obtain ⟨k, hk⟩ := List.getElem?_of_mem hx
    exact (hgs k x hk).2
  · have : n = 0 := by omega
    subst this
    exact ⟨A, 0, c, [], rfl, ⟨rfl, fun h => absurd h (by omega)⟩, by simp [maxLen], by simp⟩
set_option maxRecDepth 100000 in
/-- an argument that is a Labelled system -/
theorem open_lab {H : Type} {enc : TypeId × Value → H} {W : World} {base : Nat} {v : Value} {d : DataW H} {p : List MemPlace} (hv : Value.okWide Try.prog W .any base 64 v)
    (h : DataW.Trod enc Try.prog W 0 (fun _ => true) true 64 v d p) (hlt : ∀ x ∈ p, x.block < W.heap.size) : ∃ x, LabAt W W.heap.size v x ∧ LabW x := by
  obtain ⟨⟨cs⟩, rfl, _⟩ := okWide_struct Try.underlying64 hv
  obtain ⟨fuel, hf⟩ := h
  replace hf : DataW.trod enc Try.prog W 0 (fun _ => true) true fuel 64 cs = some (d, p) := by simpa [Value.cells] using hf
  obtain ⟨hl, m, hp⟩ := struct_cuts (x := (d, p)) Try.underlying64 hf
  rw [cells2L] at hl
  obtain ⟨z0, t0, l0⟩ := hp 0 _ rfl
  obtain ⟨z1, t1, l1⟩ := hp 1 _ rfl
  replace t0 : DataW.trod enc Try.prog W 0 (fun _ => true) true m 62 ((cs.drop 0).take (Try.prog.cellsOf 62)) = some z0 := t0
  replace t1 : DataW.trod enc Try.prog W 0 (fun _ => true) true m 23 ((cs.drop 1).take (Try.prog.cellsOf 23)) = some z1 := t1
  rw [cellsIss] at t0
  rw [cellsTs] at t1
  match cs, hl with
  | [a0, a1], _ =>
    simp only [List.drop, List.take] at t0 t1
    obtain ⟨A, n, c, bs, rfl, h0, w0⟩ := open_issc t0 (fun x hx => hlt x (l0 x hx))
    obtain ⟨A', n', c', ts, rfl, h1, w1⟩ := open_trisc t1 (fun x hx => hlt x (l1 x hx))
    exact ⟨⟨bs, ts⟩, ⟨A, n, c, A', n', c', rfl, h0, h1⟩, w0, w1⟩
set_option maxRecDepth 20000 in
set_option maxHeartbeats 1600000 in
theorem szLab_any (v : Value) (x : Lab) (left : Int) (w : World) (h : LabAt w w.heap.size v x) (hl0 : -1 ≤ left) (hl : left ≤ 1048576) (hw : LabW x) :
    Calls Try.prog 50 #[v, .int .i64 left] w (szP (labWt x) left w) := by
  obtain ⟨A1, n1, c1, A2, n2, c2, rfl, h1, h2⟩ := h
  have HBx := Lib.hid (BoxN.new w #[.slice A1 n1 c1, .slice A2 n2 c2] 64)
  have HB0 := Lib.hid ((Below.refl w.heap.size w).alloc (Nat.le_refl _) (.cells #[.slice A1 n1 c1, .slice A2 n2 c2] 64))
  obtain ⟨W, hW⟩ : ∃ W, w.alloc (.cells #[.slice A1 n1 c1, .slice A2 n2 c2] 64) = W := ⟨_, rfl⟩
  rw [hW] at HBx HB0
  have HWq := Lib.hid hW
  have hWs : w.heap.size < W.heap.size := HBx.out.lt
  have C := szISS_any A1 n1 c1 x.shows left W W.heap.size ((h1.below HB0.out).wide HB0.out.size) (Nat.le_refl _) hl0 hl hw.1
  have HT2 := Lib.hid h2.1
  have HW := Lib.hid hw
  obtain ⟨x0, x1⟩ := box2 HBx.out
  clear hW h1 h2 hw
  go_enter Try.func50, Try.ntmps50
  go_wp2_with fail
  rw [HWq.out]
  go_wp2_with fail
  refine C.mono ?_
  rintro e w1 ⟨r, rfl, hr, hr1, hr2, hb⟩
  have hb1 := HB0.out.trans (hb.mono HB0.out.size)
  obtain ⟨y0, y1⟩ := box2 (HBx.out.below hb hWs)
  have HR := Lib.hid hr
  clear C x0 x1 hb hr
  by_cases hneg : r < 0
  · go_wp2_with fail
    go_ret
    exact ⟨-1, rfl, .inl (by omega), by omega, by omega, hb1⟩
  · have C2 := szA3S_any A2 n2 c2 r w1 hr1 (by omega) (by have := HW.out.2.1; have := HT2.out; omega)
    go_wp2_with fail
    refine C2.mono ?_
    rintro e w2 ⟨r2, rfl, hr', hr1', hr2', hb⟩
    have hb2 := hb1.trans (hb.mono hb1.size)
    have HR2 := Lib.hid hr'
    clear C2 y0 y1 hb hr'
    by_cases hneg2 : r2 < 0
    · go_wp2_with fail
      go_ret
      exact ⟨-1, rfl, .inl (by omega), by omega, by omega, hb2⟩
    · go_wp2_with fail
      go_ret
      exact ⟨r2, rfl, .inr (by have := HR.out; have := HR2.out; have := HT2.out; unfold labWt; omega), by omega, by omega, hb2⟩

set_option maxRecDepth 20000 in
set_option maxHeartbeats 3200000 in
theorem toLab_any (v : Value) (x : Lab) (w : World) (h : LabAt w w.heap.size v x) (hs : labWt x ≤ 1048576) :
    Calls Try.prog 52 #[v] w fun e w' => ∃ v', e = .returned v' ∧ LabOwn w' w.heap.size v' x ∧ Below w.heap.size w w' := by
  obtain ⟨A1, n1, c1, A2, n2, c2, rfl, h1, h2⟩ := h
  have hl1 := h1.1
  have hl2 := h2.1
  have B0 : BoxN (((w.alloc (.cells #[.slice A1 n1 c1, .slice A2 n2 c2] 64)).alloc (.cells #[.slice none 0 0, .slice none 0 0] 67)).alloc (.cells #[.slice none 0 0, .slice none 0 0] 67)) w.heap.size 64 [.slice A1 n1 c1, .slice A2 n2 c2] := ((BoxN.new w #[.slice A1 n1 c1, .slice A2 n2 c2] 64).below ((Below.refl _ _).alloc (Nat.le_refl _) _) (by simp)).below ((Below.refl _ _).alloc (Nat.le_refl _) _) (by simp; omega)
  have B1 : BoxN (((w.alloc (.cells #[.slice A1 n1 c1, .slice A2 n2 c2] 64)).alloc (.cells #[.slice none 0 0, .slice none 0 0] 67)).alloc (.cells #[.slice none 0 0, .slice none 0 0] 67)) (w.heap.size + 1) 67 [.slice none 0 0, .slice none 0 0] := by
    have := (BoxN.new (w.alloc (.cells #[.slice A1 n1 c1, .slice A2 n2 c2] 64)) #[.slice none 0 0, .slice none 0 0] 67).below ((Below.refl _ _).alloc (Nat.le_refl _) (.cells #[.slice none 0 0, .slice none 0 0] 67)) (by simp)
    rw [World.size_alloc] at this
    exact this
  have B2 : BoxN (((w.alloc (.cells #[.slice A1 n1 c1, .slice A2 n2 c2] 64)).alloc (.cells #[.slice none 0 0, .slice none 0 0] 67)).alloc (.cells #[.slice none 0 0, .slice none 0 0] 67)) (w.heap.size + 1 + 1) 67 [.slice none 0 0, .slice none 0 0] := by
    have := BoxN.new ((w.alloc (.cells #[.slice A1 n1 c1, .slice A2 n2 c2] 64)).alloc (.cells #[.slice none 0 0, .slice none 0 0] 67)) #[.slice none 0 0, .slice none 0 0] 67
    rw [World.size_alloc, World.size_alloc] at this
    exact this
  have HB : Below w.heap.size w (((w.alloc (.cells #[.slice A1 n1 c1, .slice A2 n2 c2] 64)).alloc (.cells #[.slice none 0 0, .slice none 0 0] 67)).alloc (.cells #[.slice none 0 0, .slice none 0 0] 67)) := (((Below.refl w.heap.size w).alloc (Nat.le_refl _) _).alloc (by simp) _).alloc (by simp; omega) _
  have hsz : (((w.alloc (.cells #[.slice A1 n1 c1, .slice A2 n2 c2] 64)).alloc (.cells #[.slice none 0 0, .slice none 0 0] 67)).alloc (.cells #[.slice none 0 0, .slice none 0 0] 67)).heap.size = w.heap.size + 3 := by simp
  obtain ⟨W, hW⟩ : ∃ W, ((w.alloc (.cells #[.slice A1 n1 c1, .slice A2 n2 c2] 64)).alloc (.cells #[.slice none 0 0, .slice none 0 0] 67)).alloc (.cells #[.slice none 0 0, .slice none 0 0] 67) = W := ⟨_, rfl⟩
  rw [hW] at B0 B1 B2 HB hsz
  have HWq := Lib.hid hW
  have H0 := Lib.hid B0
  have H1 := Lib.hid B1
  have H2 := Lib.hid B2
  have HB0 := Lib.hid HB
  have HSz := Lib.hid hsz
  have hWs : w.heap.size < W.heap.size := by omega
  unfold labWt issWt at hs
  have C := toISS_any A1 n1 c1 x.shows W ((h1.below HB).wide HB.size) (by omega) (fun b hb => iss_len (by unfold issWt; omega) hb)
  have HT := Lib.hid h2
  obtain ⟨x0, x1⟩ := box2 B0
  obtain ⟨z0, z1⟩ := box2 B2
  clear hW B0 B1 B2 HB h1 h2 hsz
  go_enter Try.func52, Try.ntmps52
  go_wp2_with fail
  rw [HWq.out]
  go_wp2_with fail
  refine C.mono ?_
  rintro e w1 ⟨g, rfl, hbk, hg, hgl, hb⟩
  have hb1 := HB0.out.trans (hb.mono HB0.out.size)
  have hz1 := hb.size
  have hfz := World.rowIs.frozen (H2.out.below hb (by have := HSz.out; omega)) 0
  have H2b := Lib.hid (H2.out.below hb (by have := HSz.out; omega))
  have H1b := Lib.hid (H1.out.below hb (by have := HSz.out; omega))
  have H0b := Lib.hid (H0.out.below hb (by have := HSz.out; omega))
  have HB1 := Lib.hid hb1
  have HK := Lib.hid hbk
  have hgW : W.heap.size ≤ g := hg
  have HG := Lib.hid (And.intro hg hgl)
  have hv2 : Hid (Below w1.heap.size w1 w1) := Lib.hid (Below.refl _ _)
  obtain ⟨v1, hv1⟩ : ∃ v1, Value.slice (some ⟨g, 0, none⟩) n1 n1 = v1 := ⟨_, rfl⟩
  have HV1 := Lib.hid hv1
  have b20 := H2b.out.set 0 (.slice (some ⟨g, 0, none⟩) n1 n1)
  have b10 := H1b.out.other (γ := w.heap.size + 1 + 1) (by omega) 0 (.slice (some ⟨g, 0, none⟩) n1 n1)
  have b00 := H0b.out.other (γ := w.heap.size + 1 + 1) (by omega) 0 (.slice (some ⟨g, 0, none⟩) n1 n1)
  have bel0 := hb1.setCell (p := ⟨w.heap.size + 1 + 1, 0, none⟩) (by show w.heap.size ≤ w.heap.size + 1 + 1; omega) (.slice (some ⟨g, 0, none⟩) n1 n1)
  have hblk : ∀ i, i ≠ w.heap.size + 1 + 1 → (w1.setCell ⟨w.heap.size + 1 + 1, 0, none⟩ (.slice (some ⟨g, 0, none⟩) n1 n1)).heap[i]? = w1.heap[i]? := fun i hi => Below.heap_setCell _ _ _ _ (by simpa using hi)
  have hgs : (w1.setCell ⟨w.heap.size + 1 + 1, 0, none⟩ (.slice (some ⟨g, 0, none⟩) n1 n1)).heap.size = w1.heap.size := by simp [World.setCell]
  have y1 := (box2 b00).2
  obtain ⟨w2, hw2⟩ : ∃ w2, w1.setCell ⟨w.heap.size + 1 + 1, 0, none⟩ (.slice (some ⟨g, 0, none⟩) n1 n1) = w2 := ⟨_, rfl⟩
  have HW2 := Lib.hid hw2
  rw [hw2] at b20 b10 b00 bel0 hblk hgs
  have HX2 := Lib.hid (And.intro b20 (And.intro b10 (And.intro bel0 (And.intro hblk hgs))))
  have y0 := (box2 H2b.out).1
  clear hw2 b20 b10 b00 bel0 hblk hgs hb hb1 hbk hv1 x0 x1 z0 z1 C hg hgl hz1 hgW
  go_wp2_with fail
  rw [HW2.out]
  obtain ⟨b20, b10, bel0, hblk, hgs⟩ := HX2.out
  have C2 := toA3S_any A2 n2 c2 x.steps w2 ((HT.out.below bel0).wide bel0.size) (by omega)
  have HB2 := Lib.hid bel0
  have HS2 := Lib.hid hgs
  obtain ⟨y2, y3⟩ := box2 b20
  clear y0 y1 bel0 hgs
  go_wp2_with fail
  refine C2.mono ?_
  rintro e w3 ⟨rfl, hrow3, hb3⟩
  have hsz2 : w.heap.size + 1 + 1 < w2.heap.size := by have := HS2.out; have := HG.out; have := HSz.out; omega
  have c20 := b20.below hb3 hsz2
  have c10 := b10.below hb3 (by omega)
  have z2 := (box2 c20).2
  have hfz2 := World.rowIs.frozen c20 1
  have bel3 := HB2.out.trans (hb3.mono HB2.out.size)
  have d20 := c20.set 1 (.slice (some ⟨w2.heap.size, 0, none⟩) n2 n2)
  have d10 := c10.other (γ := w.heap.size + 1 + 1) (by omega) 1 (.slice (some ⟨w2.heap.size, 0, none⟩) n2 n2)
  obtain ⟨u0, u1⟩ := box2 d20
  obtain ⟨s0, s1⟩ := box2 d10
  have f0 := World.rowIs.frozen d10 0
  have f1 := World.rowIs.frozen d10 1
  obtain ⟨r0, r1⟩ := box2 d10
  have HD10 := Lib.hid d10
  have bel4 := Lib.hid (((bel3.setCell (p := ⟨w.heap.size + 1 + 1, 1, none⟩) (by show w.heap.size ≤ w.heap.size + 1 + 1; omega) (.slice (some ⟨w2.heap.size, 0, none⟩) n2 n2)).setCell (p := ⟨w.heap.size + 1, 0, none⟩) (by show w.heap.size ≤ w.heap.size + 1; omega) (.slice (some ⟨g, 0, none⟩) n1 n1)).setCell (p := ⟨w.heap.size + 1, 1, none⟩) (by show w.heap.size ≤ w.heap.size + 1; omega) (.slice (some ⟨w2.heap.size, 0, none⟩) n2 n2))
  have hblk4 : Hid (∀ i, i ≠ w.heap.size + 1 + 1 → i ≠ w.heap.size + 1 → ((((w3.setCell ⟨w.heap.size + 1 + 1, 1, none⟩ (.slice (some ⟨w2.heap.size, 0, none⟩) n2 n2)).setCell ⟨w.heap.size + 1, 0, none⟩ (.slice (some ⟨g, 0, none⟩) n1 n1)).setCell ⟨w.heap.size + 1, 1, none⟩ (.slice (some ⟨w2.heap.size, 0, none⟩) n2 n2))).heap[i]? = w3.heap[i]?) := Lib.hid (fun i h1 h2 => by
    rw [Below.heap_setCell _ _ _ _ (by simpa using h2), Below.heap_setCell _ _ _ _ (by simpa using h2), Below.heap_setCell _ _ _ _ (by simpa using h1)])
  have hsz4 : Hid ((((w3.setCell ⟨w.heap.size + 1 + 1, 1, none⟩ (.slice (some ⟨w2.heap.size, 0, none⟩) n2 n2)).setCell ⟨w.heap.size + 1, 0, none⟩ (.slice (some ⟨g, 0, none⟩) n1 n1)).setCell ⟨w.heap.size + 1, 1, none⟩ (.slice (some ⟨w2.heap.size, 0, none⟩) n2 n2)).heap.size = w3.heap.size) := Lib.hid (by simp [World.setCell])
  have HB3 := Lib.hid hb3
  have HR3 := Lib.hid hrow3
  have HL := Lib.hid (And.intro hl1 hl2)
  clear d20 d10 c20 c10 b20 b10 bel3 hb3 hrow3 C2 hl1 hl2
  go_wp2_with fail
  refine bodyPost_ret (v := .agg #[.slice (some ⟨g, 0, none⟩) n1 n1, .slice (some ⟨w2.heap.size, 0, none⟩) n2 n2]) (by simp [results, Try.results52, go_sem, r0, r1]) rfl ?_
  obtain ⟨f, L, hfr, hLL, hLM, hfb⟩ := HK.out
  have hgt := HG.out
  have hz := HSz.out
  have hs2 := HS2.out
  have hrl := HR3.out.lt
  have hb3 := HB3.out
  obtain ⟨l1, l2⟩ := HL.out
  refine ⟨_, rfl, ?_, bel4.out⟩
  have keep : ∀ i, w.heap.size + 3 ≤ i → i < w2.heap.size → _ := fun i h1 h2 => (hblk4.out i (by omega) (by omega)).trans ((hb3.block i h2).trans (hblk i (by omega)))
  refine ⟨g, w2.heap.size, by rw [l1, l2], by omega, by omega, by rw [hsz4.out]; exact hrl, ⟨f, L, ?_, fun j hj => ⟨(hLL j (by omega)).1, by have := (hLL j (by omega)).2; omega⟩, fun i j hij hj => hLM i j hij (by omega), fun j b hj hjb => ?_⟩, ?_⟩
  · rw [l1]
    exact hfr.of_block (keep g (by omega) (by omega))
  · exact ⟨(hfb j b (by omega) hjb).1, (hfb j b (by omega) hjb).2.of_block (keep (L j) (by have := (hLL j (by omega)).1; omega) (by have := (hLL j (by omega)).2; omega))⟩
  · rw [l2]
    exact HR3.out.of_block (hblk4.out _ (by omega) (by omega))

set_option maxRecDepth 20000 in
set_option maxHeartbeats 1600000 in
theorem eqLab_any (v v' : Value) (x : Lab) (w : World) (h : LabAt w w.heap.size v x) (h' : LabAt w w.heap.size v' x) (hw : LabW x) (hs : labWt x ≤ 1048576) :
    Calls Try.prog 54 #[v, v'] w fun e w' => e = .returned (.bool true) ∧ Below w.heap.size w w' := by
  obtain ⟨A1, n1, c1, A2, n2, c2, rfl, h1, h2⟩ := h
  obtain ⟨B1, m1, d1, B2, m2, d2, rfl, k1, k2⟩ := h'
  obtain rfl : n1 = m1 := h1.1.symm.trans k1.1
  obtain rfl : n2 = m2 := h2.1.symm.trans k2.1
  have hn1 : n1 ≤ maxLen := by have := hw.1.1; have := h1.1; omega
  have hn2 : n2 ≤ maxLen := by have := hw.2.1; have := h2.1; omega
  have X0 : BoxN ((w.alloc (.cells #[.slice A1 n1 c1, .slice A2 n2 c2] 67)).alloc (.cells #[.slice B1 n1 d1, .slice B2 n2 d2] 67)) w.heap.size 67 [.slice A1 n1 c1, .slice A2 n2 c2] := (BoxN.new w #[.slice A1 n1 c1, .slice A2 n2 c2] 67).below ((Below.refl _ _).alloc (Nat.le_refl _) _) (by simp)
  have X1 : BoxN ((w.alloc (.cells #[.slice A1 n1 c1, .slice A2 n2 c2] 67)).alloc (.cells #[.slice B1 n1 d1, .slice B2 n2 d2] 67)) (w.heap.size + 1) 67 [.slice B1 n1 d1, .slice B2 n2 d2] := by
    have := BoxN.new (w.alloc (.cells #[.slice A1 n1 c1, .slice A2 n2 c2] 67)) #[.slice B1 n1 d1, .slice B2 n2 d2] 67
    rw [World.size_alloc] at this
    exact this
  have HB : Below w.heap.size w ((w.alloc (.cells #[.slice A1 n1 c1, .slice A2 n2 c2] 67)).alloc (.cells #[.slice B1 n1 d1, .slice B2 n2 d2] 67)) := ((Below.refl w.heap.size w).alloc (Nat.le_refl _) _).alloc (by simp) _
  have hsz : ((w.alloc (.cells #[.slice A1 n1 c1, .slice A2 n2 c2] 67)).alloc (.cells #[.slice B1 n1 d1, .slice B2 n2 d2] 67)).heap.size = w.heap.size + 2 := by simp
  obtain ⟨W, hW⟩ : ∃ W, (w.alloc (.cells #[.slice A1 n1 c1, .slice A2 n2 c2] 67)).alloc (.cells #[.slice B1 n1 d1, .slice B2 n2 d2] 67) = W := ⟨_, rfl⟩
  rw [hW] at X0 X1 HB hsz
  have HWq := Lib.hid hW
  have H0 := Lib.hid X0
  have H1 := Lib.hid X1
  have HSz := Lib.hid hsz
  have HB0 := Lib.hid HB
  have C := eqISS_any A1 B1 n1 c1 d1 x.shows W W.heap.size W.heap.size ((h1.below HB).wide HB.size) ((k1.below HB).wide HB.size) (Nat.le_refl _) (Nat.le_refl _) hn1 (fun b hb => (hw.1.2 b hb).1)
  have HC2 := Lib.hid (fun w2 (hb : Below W.heap.size W w2) => eqA3S_any A2 B2 n2 c2 d2 x.steps w2 w2.heap.size w2.heap.size ((((h2.below HB).wide HB.size).below hb).wide hb.size) ((((k2.below HB).wide HB.size).below hb).wide hb.size) (Nat.le_refl _) (Nat.le_refl _) hn2)
  obtain ⟨x0, x1⟩ := box2 X0
  obtain ⟨y0, y1⟩ := box2 X1
  clear hW X0 X1 HB hsz h1 h2 k1 k2
  go_enter Try.func54, Try.ntmps54
  go_wp2_with fail
  rw [HWq.out]
  go_wp2_with fail
  refine C.mono ?_
  rintro e w1 ⟨rfl, hb⟩
  have hb1 := HB0.out.trans (hb.mono HB0.out.size)
  have C2 := HC2.out w1 hb
  clear x0 x1 y0 y1 C
  obtain ⟨x0, x1⟩ := box2 (H0.out.below hb (by have := HSz.out; omega))
  obtain ⟨y0, y1⟩ := box2 (H1.out.below hb (by have := HSz.out; omega))
  clear hb
  go_wp2_with fail
  refine C2.mono ?_
  rintro e w2 ⟨rfl, hb⟩
  have hb2 := hb1.trans (hb.mono hb1.size)
  clear C2 x0 x1 y0 y1 hb
  go_wp2_with fail
  go_ret
  exact ⟨rfl, hb2⟩
end Go.Proofs.Ytlpgldejmdiceaa.lab
